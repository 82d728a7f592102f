/- Reset of a lane without claims. -/
import Derived.Test.YtilahfomiofgcaaJResetA
import Derived.Test.YtilahfomiofgcaaJLane
namespace Go.Proofs.Ytilahfomiofgcaa
open Go.RowKit Go.Lib
open Go.Sort hiding Below
set_option maxRecDepth 100000

theorem own_less {w : World} {base base' : Nat} {e : TypeId} {size : Nat} {v : Value} {n : Nat} {xs : List Value} (h : w.ownsRow base e size v n xs) (hb : base' ≤ base) : w.ownsRow base' e size v n xs := by
  refine ⟨h.1, ?_⟩
  rcases h.2 with hn | ⟨g, cap, cur, rfl, hbb, rest⟩
  · exact .inl hn
  · exact .inr ⟨g, cap, cur, rfl, Nat.le_trans hb hbb, rest⟩
set_option maxHeartbeats 2000000 in
theorem jreset_ok (o : Lo) (A : La) (w : World) (x : Lx w o A) (hC : A.C.length = 0) :
    Calls Try.prog 24 #[o.ptr] w fun e w' => ∃ v, e = .returned (.tuple #[v, .int .i64 0]) ∧ w'.ownsRow w.heap.size 36 2 v (A.T.length + A.P.length) (encSl (A.T ++ A.P)) ∧ Goes w o w' (resA A) := by
  have cI := jis o A w x
  have r4 := cell_regrown x.lc.c4
  have r5 := cell_regrown x.lc.c5
  have heq : sqI A.st A.r = sqI A.st A.c := by
    congr 1
    unfold La.r
    omega
  have hlen : A.T.length + A.P.length ≤ 64 := by
    have h1 := x.ok.room
    have h2 := x.ok.cr
    unfold La.len at h1
    omega
  rw [heq] at r4
  have HX : Hid (Lx w o A) := x
  clear x
  generalize hqc : sqI A.st A.c = qc at *
  go_enter Try.func24, Try.ntmps24
  go_wp2_with fail
  refine cI.mono ?_
  rintro v w' ⟨rfl, hw'⟩
  subst hw'
  go_wp2_with fail
  refine wp_region_quiet_below (by kernel_rfl) (by kernel_rfl) ?_
  repeat (go_big_quiet_step (fail))
  refine wpQuiet_nil ?_
  intro _ hw'
  obtain ⟨⟨dq, osq⟩, hw''⟩ := hw'
  subst hw''
  have hb1 := below_regrown w' dq osq
  have x1 := HX.out.below hb1
  generalize grow (redrawn w' dq) osq = w1 at *
  clear r4 r5 cI
  have hS := jsent o A w1 x1
  go_wp2_with fail
  refine hS.mono ?_
  rintro v w2 ⟨B, cap, rfl, hH, hB, hb2⟩
  obtain ⟨l, hl⟩ : ∃ l, A.T ++ A.P = l := ⟨_, rfl⟩
  obtain ⟨n, hn⟩ : ∃ n, A.T.length + A.P.length = n := ⟨_, rfl⟩
  have hln : l.length = n := by rw [← hl, ← hn, List.length_append]
  rw [hl] at hH
  rw [hn] at hlen ⊢
  have hkl : ∀ m ∈ l, m.k ≤ 1000000 := fun m hm => by
    have hb := HX.out.ok.bd
    have hr9 := HX.out.ok.hr
    rcases List.mem_append.1 (hl ▸ hm) with h | h
    · have := (HX.out.ok.kT m h).1; omega
    · have := HX.out.ok.mem_P h; omega
  have hBl : 0 < n → B < w2.heap.size := fun h0 => by
    obtain ⟨m, hm⟩ : ∃ m, l[0]? = some m := ⟨l[0], List.getElem?_eq_getElem (by omega)⟩
    exact cell_lt (holds_at hH hm (hkl _ (List.mem_of_getElem? hm))).1
  have hwB : w'.heap.size ≤ w2.heap.size := Nat.le_trans hb1.size hb2.size
  have HB2 : Hid (Below w'.heap.size w' w2) := Below.onto hb1 hb2
  have HH : Hid (HoldsK (encT A.st) 6 w2 B 0 (l.map mtOf).toArray) := hH
  clear hS hH hb1 hb2 x1
  obtain ⟨i0, hi, hz0, hz1, hz2⟩ := info_parts Try.infoSl
  go_wp2_with fail
  go_loopw [4, 22] (fun v i wr => ∃ k : Nat, k ≤ n ∧ i = .int .i64 k ∧ Hid (wr.ownsRow w2.heap.size 36 2 v k (encSl (l.take k))) ∧ Below w2.heap.size w2 wr) (fun _ i _ => n - (intOf i).toNat)
  case atStart => exact ⟨0, Nat.zero_le _, rfl, World.ownsRow_nil _ _ _ _, Below.refl _ _⟩
  case round =>
    obtain ⟨k, hk, rfl, HO, hbel⟩ := hrel
    by_cases hkn : k < n
    · obtain ⟨m, hm⟩ : ∃ m, l[k]? = some m := ⟨l[k], List.getElem?_eq_getElem (by omega)⟩
      obtain ⟨c0, c1, c2, c3, c4, c5⟩ := holds_at HH.out hm (hkl _ (List.mem_of_getElem? hm))
      have c0 := jcells hbel c0
      have c1 := jcells hbel c1
      have c2 := jcells hbel c2
      have c3 := jcells hbel c3
      have c4 := jcells hbel c4
      have c5 := jcells hbel c5
      have HM : Hid (encSl (l.take (k + 1)) = encSl (l.take k) ++ [.int .i64 m.n, .int .u64 m.g]) := by
        show _ = _
        have hlt := (List.getElem?_eq_some_iff.1 hm).1
        rw [List.take_succ_eq_append_getElem hlt, encSl_app, (List.getElem?_eq_some_iff.1 hm).2]
        rfl
      generalize sqI A.st m.k = q0 at *
      have ownB := (HO.out.alloc (.cells #[.int .u64 q0, .int .i64 m.n, .int .u64 m.g, .bool m.laid, .int .i64 m.tk, .int .i64 m.sp] 56)).alloc (.cells #[.int .i64 m.n, .int .u64 m.g] 36)
      have hbB := (hbel.alloc hbel.size (.cells #[.int .u64 q0, .int .i64 m.n, .int .u64 m.g, .bool m.laid, .int .i64 m.tk, .int .i64 m.sp] 56)).alloc (by have := hbel.size; simp; omega) (.cells #[.int .i64 m.n, .int .u64 m.g] 36)
      have newB : ∀ j u, [Value.int .i64 m.n, .int .u64 m.g][j]? = some u → ((wr.alloc (.cells #[.int .u64 q0, .int .i64 m.n, .int .u64 m.g, .bool m.laid, .int .i64 m.tk, .int .i64 m.sp] 56)).alloc (.cells #[.int .i64 m.n, .int .u64 m.g] 36)).cell? ((⟨wr.heap.size + 1, 0, none⟩ : Addr).add j) = some u := fun j u hj => by
        have hl := (List.getElem?_eq_some_iff.1 hj)
        rw [Go.WideShapes.add_plain, Nat.zero_add]
        have e1 : (wr.alloc (.cells #[.int .u64 q0, .int .i64 m.n, .int .u64 m.g, .bool m.laid, .int .i64 m.tk, .int .i64 m.sp] 56)).heap.size = wr.heap.size + 1 := by simp
        have := jnew_at (wr.alloc (.cells #[.int .u64 q0, .int .i64 m.n, .int .u64 m.g, .bool m.laid, .int .i64 m.tk, .int .i64 m.sp] 56)) #[.int .i64 m.n, .int .u64 m.g] 36 j (by simpa using hl.1)
        rw [e1] at this
        rw [this]
        simpa using hl.2
      obtain ⟨v', w9, hrun9, own9, hgr, _, _⟩ := run_append_own_at (P := Try.prog) (w := ((wr.alloc (.cells #[.int .u64 q0, .int .i64 m.n, .int .u64 m.g, .bool m.laid, .int .i64 m.tk, .int .i64 m.sp] 56)).alloc (.cells #[.int .i64 m.n, .int .u64 m.g] 36))) w2.heap.size 66 66 36 i0 (.agg #[.int .i64 0, .int .u64 0]) 2 16 Try.underlying66 hi hz0 hz1 hz2 rfl (by decide) u4 _ _ ownB ⟨wr.heap.size + 1, 0, none⟩ 1 1 [.int .i64 m.n, .int .u64 m.g] rfl newB (by simp [Value.oneCell']) (by unfold maxLen; omega) (by omega) hbB.size
      have HB9 : Hid (Below w2.heap.size w2 w9) := hbB.grown hgr hbB.size (fun q e => (HO.out.lt q e).1)
      have HO9 : Hid (w9.ownsRow w2.heap.size 36 2 v' (k + 1) (encSl (l.take (k + 1)))) := by
        show World.ownsRow _ _ _ _ _ _ _
        rw [HM.out]
        exact own9
      clear own9 hgr hbB newB ownB HM HO hbel hwB hBl hB
      go_wp2_with (at_builtin; refine wpList_append_run rfl _ _ _ rfl _ _ _ rfl rfl hrun9 ?_)
      go_roundw
      case rel => exact ⟨k + 1, by omega, by go_num, HO9, HB9.out⟩
      case measure => simp [intOf]; omega
    · obtain rfl : k = n := by omega
      rw [show l.take k = l from List.take_of_length_le (by omega)] at HO
      have hB4 : Below w'.heap.size w' wr := HB2.out.trans (hbel.mono hwB)
      have x4 := HX.out.below hB4
      obtain ⟨w5, f', hrun5, pt5, hf5, hbu5, hs5, ho5⟩ := x4.pt.wipe 0
      have hne := x4.ne.2.2
      have mp5 := x4.mp.same (ho5 o.bm (fun e => hne e.symm))
      obtain ⟨w6, hrun6, mp6, hbu6, hs6, ho6⟩ := mp5.clear 0
      have pt6 := pt5.same (ho6 o.p hne)
      have hsl0 := slice_ring0 o.p
      have cm5 : w5.cell? ⟨o.p, 390, none⟩ = some (.map (some o.bm)) := (pt5.at_ 390 (by decide)).trans (by rw [hf5 390 (.inr (by decide)) (by decide), x4.lf.cm])
      have c62 : w6.cell? ⟨o.p, 2, none⟩ = some (.int .u64 A.ep) := (pt6.at_ 2 (by decide)).trans (by rw [hf5 2 (.inl (by decide)) (by decide), x4.lf.f2])
      have c65 : w6.cell? ⟨o.p, 5, none⟩ = some (.int .u64 qc) := (pt6.at_ 5 (by decide)).trans (by rw [hf5 5 (.inl (by decide)) (by decide), x4.lf.f5, hqc])
      have c63 := pt6.at_ 3 (by decide)
      have c69 := pt6.at_ 391 (by decide)
      have fz6 := pt6.fz
      have hwr : IntKind.u64.wrap (A.ep + 1) = (A.ep + 1) % 18446744073709551616 := by rw [IntKind.wrap_u64]
      have pt9 := ((pt6.set (i := 391) (by decide) (.slice none 0 0)).set (i := 3) (by decide) (.int .u64 (sqI A.st A.c))).set (i := 2) (by decide) (.int .u64 ((A.ep + 1) % 18446744073709551616))
      have hbu9 : But (fun b => b = o.p) w6 (((w6.setCell ⟨o.p, 391, none⟩ (.slice none 0 0)).setCell ⟨o.p, 3, none⟩ (.int .u64 (sqI A.st A.c))).setCell ⟨o.p, 2, none⟩ (.int .u64 ((A.ep + 1) % 18446744073709551616))) := set1_but (set1_but (set1_but (But.refl _ _)))
      have mp9 := mp6.same (hbu9.block o.bm mp6.lt (fun e => hne e.symm))
      have xg := x4.gone hC hf5 pt9 mp9
      have hbut : But o.has w' (((w6.setCell ⟨o.p, 391, none⟩ (.slice none 0 0)).setCell ⟨o.p, 3, none⟩ (.int .u64 (sqI A.st A.c))).setCell ⟨o.p, 2, none⟩ (.int .u64 ((A.ep + 1) % 18446744073709551616))) :=
        (((But.of hB4).onto hbu5 (fun i hi => .inl (by rw [hi]; exact o.hasP))).onto hbu6 (fun i hi => .inl (by rw [hi]; exact o.hasM))).onto hbu9 (fun i hi => .inl (by rw [hi]; exact o.hasP))
      have hpl := HX.out.pt.lt
      have hml := HX.out.mp.lt
      have own9 : (((w6.setCell ⟨o.p, 391, none⟩ (.slice none 0 0)).setCell ⟨o.p, 3, none⟩ (.int .u64 (sqI A.st A.c))).setCell ⟨o.p, 2, none⟩ (.int .u64 ((A.ep + 1) % 18446744073709551616))).ownsRow w2.heap.size 36 2 u4 k (encSl l) := own_block HO.out fun b hb => by
        have hbb := HO.out.lt b hb
        rw [hbu9.block b (by rw [hs6, hs5]; exact hbb.2) (by omega), ho6 b (by omega), ho5 b (by omega)]
      have HG : Hid (Goes w' o (((w6.setCell ⟨o.p, 391, none⟩ (.slice none 0 0)).setCell ⟨o.p, 3, none⟩ (.int .u64 (sqI A.st A.c))).setCell ⟨o.p, 2, none⟩ (.int .u64 ((A.ep + 1) % 18446744073709551616))) (resA A)) :=
        ⟨{ o with f := upd (upd (upd f' 391 (.slice none 0 0)) 3 (.int .u64 (sqI A.st A.c))) 2 (.int .u64 ((A.ep + 1) % 18446744073709551616)), tl := [], hl := [], hv := .slice none 0 0 }, rfl, xg, hbut, fun b hb => by
          rcases hb with h | h | h
          · exact .inl (.inl h)
          · exact .inl (.inr (.inl h))
          · have h : (Value.slice none 0 0).ownBlock = some b := h
            exact absurd h (by simp [Value.ownBlock])⟩
      have HOW : Hid ((((w6.setCell ⟨o.p, 391, none⟩ (.slice none 0 0)).setCell ⟨o.p, 3, none⟩ (.int .u64 (sqI A.st A.c))).setCell ⟨o.p, 2, none⟩ (.int .u64 ((A.ep + 1) % 18446744073709551616))).ownsRow w'.heap.size 36 2 u4 k (encSl l)) := own_less own9 hwB
      rw [hqc] at HG HOW
      clear own9 hpl hml hbut xg mp9 hbu9 pt9 mp6 hbu6 ho6 pt6 pt5 mp5 hf5 hbu5 ho5 x4 hB4 HO hbel hs5 hs6 HX HB2 HH hwB hBl hB hkl
      go_wp2_with (at_builtin; first | refine wpList_clear_run rfl _ _ rfl _ _ rfl hrun5 ?_ | refine wpList_clear_run rfl _ _ rfl _ _ rfl hrun6 ?_)
      refine bodyPost_ret (v := .tuple #[u4, .int .i64 0]) (by simp [results, Try.results24, go_sem]) rfl ⟨u4, rfl, ?_, HG.out⟩
      rw [hl, hn]
      exact HOW.out
/-- pairs in a row -/
def encP (l : List (Int × Int)) : List Value := l.flatMap fun x => [.int .i64 x.1, .int .u64 x.2]
theorem encSl_P (l : List Ms) : encSl l = encP (slotsL l) := by simp [encSl, encP, slotsL, List.flatMap_map]
theorem resetN {w : World} {p : Nat} {A : La} {X : Nat → Prop} (l : Ln w p A X) : Calls Try.prog 24 #[pV p] w fun e w' => ∃ v, e = .returned (.tuple #[v, .int .i64 (resE A)]) ∧ w'.ownsRow w.heap.size 36 2 v (resL A).length (encP (resL A)) ∧ Ln w' p (resA A) X ∧ But (Els X) w w' := by
  obtain ⟨hlt, o, hp, x, hX⟩ := l
  subst hp
  have key : ∀ (A' : La) (w' : World), Goes w o w' A' → Ln w' o.p A' X ∧ But (Els X) w w' := by
    rintro A' w' ⟨o', hp', x', hb, hh⟩
    refine ⟨⟨fun b hb' => Nat.lt_of_lt_of_le (hlt b hb') hb.size, o', hp', x', fun b hb' ho => ?_⟩, hb.mono fun i hi hx => hX i hx hi⟩
    rcases hh b ho with h1 | h1
    · exact hX b hb' h1
    · have := hlt b hb'; omega
  by_cases hC : A.C.length = 0
  · refine (jreset_ok o A w x hC).mono ?_
    rintro e w' ⟨v, rfl, h1, h2⟩
    have e1 : resL A = slotsL (A.T ++ A.P) := if_pos hC
    have e2 : resE A = 0 := if_pos hC
    rw [e1, e2, ← encSl_P]
    refine ⟨v, rfl, ?_, key _ _ h2⟩
    have e3 : (slotsL (A.T ++ A.P)).length = A.T.length + A.P.length := by simp [slotsL]
    rw [e3]
    exact h1
  · refine (jreset_no o A w x hC).mono ?_
    rintro e w' ⟨rfl, h1⟩
    have e1 : resL A = [] := if_neg hC
    have e2 : resE A = 84 := if_neg hC
    have e3 : resA A = A := if_neg hC
    rw [e1, e2, e3]
    exact ⟨_, rfl, World.ownsRow_nil _ _ _ _, key _ _ (Goes.stay x h1)⟩
end Go.Proofs.Ytilahfomiofgcaa
