/- The document's New. -/
import Derived.Test.YtobpignlamekmaaQNewM
namespace Go.Proofs.Ytobpignlamekmaa
open Go.RowKit Go.Sort
set_option maxRecDepth 100000

theorem Try.infoQCell : (Try.prog.info? 81).map (fun i => (i.zero, i.size, i.bytes)) = some (some (.agg #[.int .u64 0, .int .u64 0, .bool false]), 3, 24) := by kernel_rfl
theorem Try.infoQRow : (Try.prog.info? 22).map (fun i => (i.zero, i.size, i.bytes)) = some (some (.slice none 0 0), 1, 24) := by kernel_rfl

set_option maxHeartbeats 2000000 in
theorem rnew_bad (a : Option Addr) (n cap : Nat) (z : Nat → Int) (w : World) (hn : n < 9223372036854775807) (hc : Cells w .i64 a n z) (hq : mayQ n z = false) :
    Calls Try.prog 11 #[.slice a n cap] w fun e w' => e = .returned (.tuple #[.pointer none, .int .i64 60]) ∧ w' = w := by
  have HC : Hid (Cells w .i64 a n z) := hc
  have HQ : Hid (¬ (1 ≤ n ∧ n ≤ 16 ∧ ∀ j, j < n → 0 ≤ z j ∧ z j ≤ 256)) := fun h => by rw [mayQ_iff.2 h] at hq; cases hq
  clear hc hq
  go_enter Try.func11, Try.ntmps11
  by_cases h1 : n < 1
  · go_wp2_with fail
    go_ret2
    exact ⟨rfl, rfl⟩
  by_cases h2 : 16 < n
  · go_wp2_with fail
    go_ret2
    exact ⟨rfl, rfl⟩
  go_wp2_with fail
  go_loopw [4] (fun i wr => ∃ k : Nat, k ≤ n ∧ i = .int .i64 k ∧ wr = w ∧ Hid (∀ j, j < k → 0 ≤ z j ∧ z j ≤ 256)) (fun i _ => n - (intOf i).toNat)
  case atStart => exact ⟨0, by omega, rfl, rfl, fun j hj => absurd hj (by omega)⟩
  case round =>
    obtain ⟨k, hk, rfl, rfl, hall⟩ := hrel
    have hlt : k < n := by
      by_cases e : k < n
      · exact e
      · obtain rfl : k = n := by omega
        exact absurd ⟨by omega, by omega, hall.out⟩ HQ.out
    obtain ⟨b, off, rfl, hcell⟩ := HC.out k hlt
    by_cases g1 : z k < 0
    · go_wp2_with fail
      go_ret2
      exact ⟨rfl, rfl⟩
    by_cases g2 : 256 < z k
    · go_wp2_with fail
      go_ret2
      exact ⟨rfl, rfl⟩
    have H2 : Hid (∀ j, j < k + 1 → 0 ≤ z j ∧ z j ≤ 256) := fun j hj => by
      by_cases e : j = k
      · subst e; omega
      · exact hall.out j (by omega)
    go_wp2_with fail
    go_roundw
    case rel => exact ⟨k + 1, by omega, by go_num, trivial, H2.out⟩
    case measure => simp [intOf]; omega

/-- the quotas as a row -/
def szs (h : Sh) : List Nat := (List.range h.P).map h.sz
theorem szs_news {w : World} {b off : Nat} {h : Sh} (hc : Cells w .i64 (some ⟨b, off, none⟩) h.P fun j => ((h.sz j : Nat) : Int)) : ∀ j u, (encL (szs h))[j]? = some u → w.cell? ((⟨b, off, none⟩ : Addr).add j) = some u := by
  intro j u hj
  have hl := (List.getElem?_eq_some_iff.1 hj).1
  rw [encL_len] at hl
  have hl' : j < h.P := by simpa [szs] using hl
  obtain ⟨b', off', e, hcell⟩ := hc j hl'
  cases e
  rw [Addr.add_lit, hcell]
  rw [← hj]
  simp [encL, szs, hl']
theorem szs_len (h : Sh) : (encL (szs h)).length = h.P := by rw [encL_len]; simp [szs]
/-- a row with something in it, opened -/
theorem row_open {W : World} {base e size n : Nat} {v : Value} {xs : List Value} (r : W.ownsRow base e size v n xs) (hn : 0 < n) : ∃ g c, v = .slice (some ⟨g, 0, none⟩) n c ∧ base ≤ g ∧ n ≤ c ∧ (∃ cs, W.heap[g]? = some (.cells cs e (0, 0))) ∧ ∀ i, i < n * size → W.cell? ⟨g, i, none⟩ = xs[i]? := by
  rcases r.2 with ⟨_, e0⟩ | ⟨g, cap, cur, e1, hb, hg, h6, _, _, htk⟩
  · omega
  · refine ⟨g, cap, e1, hb, h6, ⟨cur, hg⟩, fun i hi => ?_⟩
    rw [cell_of_row _ _ i _ _ (0, 0) hg, ← htk, List.getElem?_take_of_lt hi]
    simp
theorem nq_start {w2 : World} {base bz zc : Nat} {h : Sh} (hb : base ≤ w2.heap.size) (hg : base ≤ bz) (hk : ∃ cs, w2.heap[bz]? = some (.cells cs 3 (0, 0))) (hz : ∀ i, i < h.P * 1 → w2.cell? ⟨bz, i, none⟩ = (encL (szs h))[i]?) :
    Nq (w2.alloc (.cells #[.slice (some ⟨bz, 0, none⟩) h.P zc, .slice none 0 0, .slice none 0 0] 79)) base (w2.heap.size + 1) w2.heap.size bz zc h 0 0 := by
  have hbz := kind_lt hk
  have e1 : (w2.alloc (.cells #[.slice (some ⟨bz, 0, none⟩) h.P zc, .slice none 0 0, .slice none 0 0] 79)).heap[bz]? = w2.heap[bz]? := Below.heap_alloc _ _ _ hbz
  have e2 := World.alloc_heap_new w2 (.cells #[.slice (some ⟨bz, 0, none⟩) h.P zc, .slice none 0 0, .slice none 0 0] 79)
  have e3 : (w2.alloc (.cells #[.slice (some ⟨bz, 0, none⟩) h.P zc, .slice none 0 0, .slice none 0 0] 79)).heap.size = w2.heap.size + 1 := by simp
  generalize w2.alloc _ = W at *
  have c : ∀ b i (zs : Array Value) T, W.heap[b]? = some (.cells zs T (0, 0)) → W.cell? ⟨b, i, none⟩ = zs[i]? := fun b i zs T h => by simp [World.cell?, h]
  refine ⟨⟨_, e2⟩, by rw [e1]; exact hk, ?_, ?_, ⟨none, 0, ?_, World.ownsRow_nil _ _ _ _⟩, ⟨none, 0, [], ?_, World.ownsRow_nil _ _ _ _, fun j hj => absurd hj (by omega)⟩, hb, hg, by omega, by omega⟩
  · rw [c _ _ _ _ e2]; rfl
  · intro j hj
    rw [World.cell?_of_block (w := w2) (a := ⟨bz, j, none⟩) e1, hz j (by omega)]
    simp [encL, szs, hj]
  · rw [c _ _ _ _ e2]; rfl
  · rw [c _ _ _ _ e2]; rfl
theorem three_new (w : World) (x y u : Value) (t : TypeId) : ∀ j v, [x, y, u][j]? = some v → (w.alloc (.cells #[x, y, u] t)).cell? ((⟨w.heap.size, 0, none⟩ : Addr).add j) = some v := by
  intro j v hj
  have hb : (w.alloc (.cells #[x, y, u] t)).heap[w.heap.size]? = some (.cells #[x, y, u] t (0, 0)) := World.alloc_heap_new w _
  rw [Addr.add_lit, Nat.zero_add, cell_of_row _ _ j _ t (0, 0) hb]
  match j, hj with
  | 0, hj => exact hj
  | 1, hj => exact hj
  | 2, hj => exact hj
/-- the first so many of a partition's numbers -/
def Lt (h : Sh) (k t : Nat) : List Nat := (List.range t).map (h.fs k + ·)
theorem Lt_len (h : Sh) (k t : Nat) : (Lt h k t).length = t := by simp [Lt]
theorem Lt_succ (h : Sh) (k t : Nat) : encL (Lt h k (t + 1)) = encL (Lt h k t) ++ [.int .i64 ((h.fs k + t : Nat) : Int)] := by
  simp [Lt, encL, List.range_succ]

theorem hidm {p : Prop} (h : p) : Hid p := h
theorem Nq.growCr {W W1 : World} {base top p bz zc k m n c1 : Nat} {h : Sh} {a1 : Option Addr} {vl : Value} {xs ys : List Value} {tmp : Obj} (a : Nq W base top p bz zc h k m) (r : W.ownsRow base 81 3 (.slice a1 m c1) m ys) (rl : W.ownsRow top 3 1 vl n xs) (hg : (W.alloc tmp).grownBy W1 (Value.ownBlock (.slice a1 m c1))) (u : Value) :
    (W1.setCell ⟨p, 1, none⟩ u).ownsRow top 3 1 vl n xs :=
  row_set (row_kept rl r (by decide) hg) (by rw [blk_grown r a.kp (by decide) hg]; exact a.kp) (by decide) 1 u

set_option maxHeartbeats 4000000 in
theorem rnew_ok (a : Option Addr) (n cap : Nat) (z : Nat → Int) (w : World) (hc : Cells w .i64 a n z) (hq : mayQ n z = true) :
    Calls Try.prog 11 #[.slice a n cap] w fun e w' => ∃ q : Qo, e = .returned (.tuple #[q.ptr, .int .i64 0]) ∧ Qx w' q (shOf z n) (qOf (shOf z n) (daN (shOf z n) (shOf z n).N)) ∧ Below w.heap.size w w' ∧ q.B = w.heap.size ∧ (∀ b, q.cl = some ⟨b, 0, none⟩ → b < w'.heap.size) := by
  obtain ⟨q1, q2, q3⟩ := mayQ_iff.1 hq
  have HOk : Hid (shOf z n).Ok := shOf_ok q2 q3
  have HCt : Hid (Cont (shOf z n)) := shOf_cont z n
  have HC : Hid (Cells w .i64 a n fun j => (((shOf z n).sz j : Nat) : Int)) := hc.congr fun j hj => by have := q3 j hj; show z j = (((z j).toNat : Nat) : Int); omega
  have HF : Hid (∀ k, k < n → (shOf z n).fs (k + 1) = (shOf z n).fs k + (shOf z n).sz k) := fun _ _ => rfl
  have HFN : Hid ((shOf z n).fs n = (shOf z n).N) := rfl
  have HF0 : Hid ((shOf z n).fs 0 = 0) := rfl
  have hP : (shOf z n).P = n := rfl
  generalize shOf z n = h at *
  subst hP
  clear hc hq q3
  obtain ⟨b, off, rfl, _⟩ := HC.out 0 (by omega)
  go_enter Try.func11, Try.ntmps11
  go_wp2_with fail
  go_loopw [4] (fun i wr => ∃ k : Nat, k ≤ h.P ∧ i = .int .i64 k ∧ wr = w) (fun i _ => h.P - (intOf i).toNat)
  case atStart => exact ⟨0, by omega, rfl, rfl⟩
  case round =>
    obtain ⟨k, hk, rfl, rfl⟩ := hrel
    by_cases hlt : k < h.P
    · obtain ⟨b', off', e, hcell⟩ := HC.out k hlt
      cases e
      have hs := HOk.out.s256 k hlt
      go_wp2_with fail
      go_roundw
      case rel => exact ⟨k + 1, by omega, by go_num, trivial⟩
      case measure => simp [intOf]; omega
    · obtain rfl : k = h.P := by omega
      obtain ⟨wx, hwx⟩ : ∃ x, x = wr := ⟨wr, rfl⟩
      subst hwx
      obtain ⟨i0, hi, hz0, hz1, hz2⟩ := info_parts Try.info3
      have hrow := own_build0 wx wx.heap.size (Nat.le_refl _)
      have hn1 := szs_news (HC.out.below ((Below.refl _ wx).alloc (Nat.le_refl _) (.cells #[] 3)))
      go_wp2_with (at_builtin; refine wpList_append_own _ rfl _ _ 22 rfl wx.heap.size 3 i0 (.int .i64 0) 1 8 Try.underlying22 hi hz0 hz1 hz2 rfl (by decide) _ _ _ rfl hrow ⟨b, off, none⟩ h.P _ (encL (szs h)) rfl (by rw [szs_len]; omega) hn1 (encL_one _) (by unfold maxLen; omega) (by omega) (by simp) ?_; intro v2 w2 hown2 hgrow2 _; have B2 := ((Below.refl _ wx).alloc (Nat.le_refl _) _).grown hgrow2 (by simp) (own_ge hrow); rw [Nat.zero_add, List.nil_append] at hown2; obtain ⟨bz, zc, rfl, o1, o2, o3, o4⟩ := row_open hown2 (by omega); have HN : Hid (Nq _ wx.heap.size (w2.heap.size + 1) w2.heap.size bz zc h 0 0) := nq_start B2.size o1 o3 o4; have B3 := B2.alloc B2.size (.cells #[.slice (some ⟨bz, 0, none⟩) h.P zc, .slice none 0 0, .slice none 0 0] 79); clear hown2 hgrow2 hrow hn1 o1 o3 o4)
      have hp0 : wx.heap.size ≤ w2.heap.size := B2.size
      have hp1 : w2.heap.size < (w2.alloc (.cells #[.slice (some ⟨bz, 0, none⟩) h.P zc, .slice none 0 0, .slice none 0 0] 79)).heap.size := by simp
      generalize World.alloc w2 _ = W0 at *
      clear B2 hi hz0 hz1 hz2
      have HN' := HN.out
      clear HN
      generalize w2.heap.size = p at *
      obtain ⟨top0, HT⟩ : ∃ t, Hid (Nq W0 wx.heap.size t p bz zc h 0 0) := ⟨_, HN'⟩
      have HB : Hid (Below wx.heap.size wx W0) := B3
      clear HN' B3
      go_loopw [6] (fun i wr => ∃ k top : Nat, k ≤ h.P ∧ i = .int .i64 k ∧ Hid (Nq wr wx.heap.size top p bz zc h k (h.fs k)) ∧ Hid (Below wx.heap.size wx wr)) (fun i _ => h.P - (intOf i).toNat)
      case atStart => exact ⟨0, top0, by omega, rfl, HF0.out.symm ▸ HT.out, HB.out⟩
      case round =>
        obtain ⟨k, top, hk, rfl, hN, hbel⟩ := hrel
        by_cases hlt : k < h.P
        · have q2' : (k : Int) < (h.P : Int) := by omega
          have q3' : (0 : Int) ≤ (k : Int) := by omega
          have hs := HOk.out.s256 k hlt
          have hf4 := HOk.out.f4 k hlt
          have hbt := hN.out.b0
          have HLT : Hid (k < h.P) := hlt
          obtain ⟨wy, hwy⟩ : ∃ x, x = wr := ⟨wr, rfl⟩
          subst hwy
          go_wp2_with fail
          go_loopw [7, 8] (fun l i wr => ∃ t m : Nat, t ≤ h.sz k ∧ i = .int .i64 t ∧ Hid (m = h.fs k + t) ∧ Hid (Nq wr wx.heap.size top p bz zc h k m) ∧ Hid (wr.ownsRow top 3 1 l t (encL (Lt h k t))) ∧ Hid (Below wx.heap.size wx wr)) (fun _ i _ => h.sz k - (intOf i).toNat)
          case atStart => exact ⟨0, h.fs k, by omega, rfl, rfl, hN, World.ownsRow_nil _ _ _ _, hbel⟩
          case round =>
            obtain ⟨t, m, ht, rfl, hm, hM, hR, hbel⟩ := hrel
            obtain ⟨b', off', e, hcell⟩ := HC.out.below hbel.out k hlt
            cases e
            have htop := hM.out.b0.2.2.2
            by_cases htl : t < h.sz k
            · have hn4 : m < 4096 := by
                have h1 := (HOk.out.in_ k t hlt htl).1
                have h2 := HOk.out.n4
                have h3 := hm.out
                omega
              obtain ⟨a1, c1, l1, lr⟩ := hM.out.c1
              obtain ⟨i0, hi, hz0, hz1, hz2⟩ := info_parts Try.info3
              obtain ⟨j0, ji, jz0, jz1, jz2⟩ := info_parts Try.infoQCell
              clear lr
              go_wp2_with (at_builtin; first | (refine wpList_append_own _ rfl _ _ 22 rfl top 3 i0 (.int .i64 0) 1 8 Try.underlying22 hi hz0 hz1 hz2 rfl (by decide) _ _ _ rfl (hR.out.alloc _) ⟨wr.heap.size, 0, none⟩ 1 1 [.int .i64 (m : Int)] rfl rfl (cell_one_new _ _ _) (by simp [Value.oneCell']) (by unfold maxLen; omega) (by omega) (by simp; omega) ?_; intro v3 w3 hown3 hgrow3 _; have hM3 := hidm (hM.out.growL hR.out hgrow3); have B3 := hidm (below_grown hbel.out (by omega) hgrow3 (fun g e => by have := (hR.out.lt g e).1; omega)); have hR3 : Hid (w3.ownsRow top 3 1 v3 (t + 1) (encL (Lt h k (t + 1)))) := (by show World.ownsRow _ _ _ _ _ _ _; rw [Lt_succ, ← hm.out]; exact hown3); have hs3 := hM3.out.b0.2.2.2; clear hown3 hgrow3 l1; obtain ⟨a3, c3, l1, lr3⟩ := hM3.out.c1; have HL1 := hidm l1; have HR1 := hidm lr3; clear lr3) | (refine wpList_append_own _ rfl _ _ 76 rfl wx.heap.size 81 j0 (.agg #[.int .u64 0, .int .u64 0, .bool false]) 3 24 Try.underlying76 ji jz0 jz1 jz2 rfl (by decide) _ _ _ rfl (HR1.out.alloc _) ⟨w3.heap.size, 0, none⟩ 1 1 [.int .u64 0, .int .u64 0, .bool false] rfl rfl (three_new _ _ _ _ _) (by simp [Value.oneCell']) (by unfold maxLen; omega) (by omega) (by simp; omega) ?_; intro v4 w4 hown4 hgrow4 _; obtain ⟨g4, c4, rfl, _⟩ := row_open hown4 (by omega); obtain ⟨n1, n2, n3⟩ := hM3.out.growC HL1.out HR1.out hown4 hgrow4; have N4 := hidm n1; have R4 := hidm (hM3.out.growCr HR1.out hR3.out hgrow4 (.slice (some ⟨g4, 0, none⟩) (m + 1) c4)); have B4 := hidm ((below_grown B3.out (by omega) hgrow4 (fun g e => (HR1.out.lt g e).1)).setCell (p := ⟨p, 1, none⟩) (by show wx.heap.size ≤ p; omega) (.slice (some ⟨g4, 0, none⟩) (m + 1) c4)); clear hown4 hgrow4 n1))
              go_roundw
              case rel => exact ⟨t + 1, m + 1, by omega, by go_num, (by have := hm.out; show _ = _; omega), N4, R4, B4⟩
              case measure => simp [intOf]; omega
            · obtain rfl : t = h.sz k := by omega
              obtain ⟨la, lc, rfl⟩ : ∃ la lc, u7 = Value.slice la (h.sz k) lc := by
                rcases hR.out.2 with ⟨e, e0⟩ | ⟨g, cap, cur, e, _⟩
                · exact ⟨none, 0, by rw [e, e0]⟩
                · exact ⟨_, _, e⟩
              obtain ⟨a2, c2, vs, l2, lr, l5⟩ := hM.out.c2
              have HL2 := hidm l2
              have HR2 := hidm lr
              have H5 := hidm l5
              have hRk : Hid (wr.ownsRow top 3 1 (.slice la (h.sz k) lc) (Lk h k).length (encL (Lk h k))) := by
                have e : (Lk h k).length = h.sz k := by simp [Lk]
                show World.ownsRow _ _ _ _ _ _ _
                rw [e]
                exact hR.out
              obtain ⟨i0, hi, hz0, hz1, hz2⟩ := info_parts Try.infoQRow
              clear lr l5 hR
              go_wp2_with (at_builtin; refine wpList_append_own _ rfl _ _ 77 rfl wx.heap.size 22 i0 (.slice none 0 0) 1 24 Try.underlying77 hi hz0 hz1 hz2 rfl (by decide) _ _ _ rfl (HR2.out.alloc _) ⟨wr.heap.size, 0, none⟩ 1 1 [.slice la (h.sz k) lc] rfl rfl (cell_one_new _ _ _) (by simp [Value.oneCell']) (by unfold maxLen; omega) (by omega) (by simp; omega) ?_; intro v4 w4 hown4 hgrow4 _; obtain ⟨g4, c4, rfl, _⟩ := row_open hown4 (by omega); obtain ⟨n1, n2, n3⟩ := hM.out.growF HL2.out HR2.out H5.out hRk.out hown4 hgrow4; have N4 := hidm n1; have B4 := hidm ((below_grown hbel.out (by omega) hgrow4 (fun g e => (HR2.out.lt g e).1)).setCell (p := ⟨p, 2, none⟩) (by show wx.heap.size ≤ p; omega) (.slice (some ⟨g4, 0, none⟩) (k + 1) c4)); clear hown4 hgrow4 n1)
              go_roundw
              case rel => exact ⟨k + 1, _, by omega, by go_num, (by have e := HF.out k hlt; rw [e, ← hm.out]; exact N4.out), B4⟩
              case measure => simp [intOf]; omega
        · obtain rfl : k = h.P := by omega
          obtain ⟨q, e1, e2, e4, e3⟩ := (HFN.out ▸ hN.out).done HOk.out HCt.out (by omega) (by omega)
          have HQ := hidm e3
          have HQ4 := hidm e4
          clear e3 e4
          go_wp2_with fail
          go_ret2
          exact ⟨q, by subst e1; rfl, HQ.out, hbel.out, e2, HQ4.out⟩
end Go.Proofs.Ytobpignlamekmaa
