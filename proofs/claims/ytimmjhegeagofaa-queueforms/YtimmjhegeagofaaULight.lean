/- The law's light: a queue that is cut. -/
import Derived.Test.YtimmjhegeagofaaURefO
import Derived.Test.YtimmjhegeagofaaUArg
namespace Go.Proofs.Ytimmjhegeagofaa
open Go.RowKit
set_option maxRecDepth 100000

def liL (l : PLn) : PLn := ⟨l.cr, l.tw, l.lf, l.cl.take 70, l.nx, l.ep⟩
def liQ (Q : Qu) : Qu := ⟨(Q.ls.take 18).map liL, Q.ms.take 100⟩
theorem liQ_ok (Q : Qu) : OkQ (liQ Q) := by
  refine ⟨by simp [liQ]; omega, by simp [liQ]; omega, fun j hj => ?_⟩
  have hj' : j < ((Q.ls.take 18).map liL).length := hj
  show (atP ((Q.ls.take 18).map liL) j).cl.length ≤ 1000
  rw [atP_eq hj', List.getElem_map]
  simp [liL]
  omega
theorem liQ_at {Q : Qu} {j : Nat} (h : j < Q.ls.length) (h2 : j < 18) : atP (liQ Q).ls j = liL (atP Q.ls j) := by
  have hj' : j < ((Q.ls.take 18).map liL).length := by simp; omega
  show atP ((Q.ls.take 18).map liL) j = _
  rw [atP_eq hj', List.getElem_map, atP_eq h]
  simp
theorem Sl.front {w : World} {s n k cap : Nat} {c : Nat → Nat → Value} {a : Option Addr} (h : Sl w s n c (.slice a n cap)) (hk : k ≤ n) : Sl w s k c (.slice a k cap) := by
  obtain ⟨a', cap', e, h1, h2, h3⟩ := h
  cases e
  exact ⟨a, cap, rfl, by omega, fun e => by have := h2 e; exact ⟨by omega, this.2⟩, fun j hj => h3 j (by omega)⟩
theorem light_ls {W : World} {Q : Qu} {V' : Nat → Value} {al : Option Addr} {cl k base : Nat} {xs : List Value} (hk : k = (liQ Q).ls.length) (hk1 : k ≤ Q.ls.length) (hk2 : k ≤ 18)
    (hown : W.ownsRow base 94 6 (.slice al k cl) k xs) (hxs : ∀ j, j < k → ∀ f, f < 6 → xs[j * 6 + f]? = some (encP (liL (atP Q.ls j)) (V' j) f)) : Sl W 6 (liQ Q).ls.length (encLs (liQ Q).ls V') (.slice al k cl) := by
  rw [← hk]
  refine sl_own hown fun j hj f hf => ?_
  unfold encLs
  rw [liQ_at (by omega) (by omega)]
  exact hxs j hj f hf
theorem light_old {w : World} {vl : Value} {Q : Qu} {V V' : Nat → Value} {ma : Option Addr} {mc M k : Nat} (hq : QIs w vl (.slice ma Q.ms.length mc) Q V) (hM : M = (Q.ms.take 100).length) (hk : k = (liQ Q).ls.length) (hk1 : k ≤ Q.ls.length) (hk2 : k ≤ 18)
    (hcls : ∀ j, j < k → Cl w (V' j) (liL (atP Q.ls j)).cl) : Cls w V' (liQ Q).ls ∧ Sl w 4 (liQ Q).ms.length (encMs (liQ Q).ms) (.slice ma M mc) := by
  refine ⟨fun j hj => ?_, ?_⟩
  · rw [liQ_at (by omega) (by omega)]
    exact hcls j (by omega)
  · show Sl w 4 (Q.ms.take 100).length _ _
    rw [← hM]
    refine (hq.m.front (k := M) (by rw [hM]; simp; omega)).congr fun j hj f _ => ?_
    unfold encMs
    congr 1
    have : j < 100 := by rw [hM] at hj; simp at hj; omega
    show atM Q.ms j = atM (Q.ms.take 100) j
    simp [atM, this]
set_option maxHeartbeats 4000000 in
theorem light_any (vl vm : Value) (Q : Qu) (V : Nat → Value) (w : World) (hl : Q.ls.length ≤ maxLen) (hm : Q.ms.length ≤ maxLen) (hq : QIs w vl vm Q V) : Calls Try.prog 27 #[quV vl vm] w fun e w' =>
    ∃ ul um V', e = .returned (quV ul um) ∧ Sl w' 6 (liQ Q).ls.length (encLs (liQ Q).ls V') ul ∧ (∀ b, ul.ownBlock = some b → w.heap.size ≤ b) ∧ (∀ W0, QIs W0 vl vm Q V → Cls W0 V' (liQ Q).ls ∧ Sl W0 4 (liQ Q).ms.length (encMs (liQ Q).ms) um) ∧ Below w.heap.size w w' := by
  have HQ : Hid (QIs w vl vm Q V) := hq
  obtain ⟨la, lc, rfl, _, _, hlr⟩ := hq.l
  obtain ⟨ma, mc, rfl, hmc, _, hmr⟩ := hq.m
  obtain ⟨k1, k2, b2, s2⟩ := alloc2 w [.slice la Q.ls.length lc, .slice ma Q.ms.length mc] 67 [.slice none 0 0, .slice none 0 0] 67
  have K1 : Hid (Blk _ _ _ _) := k1
  have K2 : Hid (Blk _ _ _ _) := k2
  have B2 : Hid (Below _ _ _) := b2
  have S2 : Hid (_ = _) := s2
  unfold maxLen at hl hm
  clear hlr hmr hq k1 k2 b2 s2
  go_enter Try.func27, Try.ntmps27
  go_wp2_with fail
  obtain ⟨M, hM⟩ : ∃ M, M = (min (Q.ms.length : Int) 100).toNat := ⟨_, rfl⟩
  have HM : Hid (M = (Q.ms.take 100).length) := by show _ = _; rw [hM, List.length_take]; omega
  have HML : Hid (M ≤ Q.ms.length) := by show _ ≤ _; rw [hM]; omega
  rw [← hM]
  clear hM K1 K2 B2 S2
  obtain ⟨k1, k2, b2, s2⟩ := alloc2 w [.slice la Q.ls.length lc, .slice ma M mc] 67 [.slice none 0 0, .slice none 0 0] 67
  have K1 : Hid (Blk _ _ _ _) := k1
  have K2 : Hid (Blk _ _ _ _) := k2
  have B2 : Hid (Below _ _ _) := b2
  have S2 : Hid (_ = _) := s2
  clear k1 k2 b2 s2
  generalize (w.alloc (.cells #[.slice la Q.ls.length lc, .slice ma M mc] 67)).alloc (.cells #[.slice none 0 0, .slice none 0 0] 67) = w2 at *
  go_loopw [3, 4] (fun l i wr => ∃ (k : Nat) (V' : Nat → Value) (al : Option Addr) (cl : Nat) (xs : List Value), k ≤ Q.ls.length ∧ k ≤ 18 ∧ i = .int .i64 k ∧ l = .slice al k cl ∧ Hid (wr.ownsRow (w.heap.size + 1 + 1) 94 6 (.slice al k cl) k xs) ∧
      Hid (∀ j, j < k → ∀ f, f < 6 → xs[j * 6 + f]? = some (encP (liL (atP Q.ls j)) (V' j) f)) ∧ Hid (∀ W0, QIs W0 (.slice la Q.ls.length lc) (.slice ma Q.ms.length mc) Q V → ∀ j, j < k → Cl W0 (V' j) (liL (atP Q.ls j)).cl) ∧
      Hid (Blk wr w.heap.size 67 [.slice la Q.ls.length lc, .slice ma M mc]) ∧ Hid (Blk wr (w.heap.size + 1) 67 [.slice none 0 0, .slice none 0 0]) ∧ Hid (Below w.heap.size w wr) ∧ Hid (w.heap.size + 1 + 1 ≤ wr.heap.size)) (fun _ i _ => Q.ls.length - (intOf i).toNat)
  case atStart => exact ⟨0, V, none, 0, [], Nat.zero_le _, Nat.zero_le _, rfl, rfl, World.ownsRow_nil _ _ _ _, fun j hj => absurd hj (by omega), fun _ _ j hj => absurd hj (by omega), K1.out, K2.out, B2.out, by show _ ≤ _; rw [S2.out]; exact Nat.le_refl _⟩
  case round =>
    obtain ⟨k, V', al, cl, xs, hk, hk18, rfl, rfl, hlan, hxs, hcls, hq1, hq2, hbw, hsz⟩ := hrel
    obtain ⟨q0, q1⟩ := hq1.out.bx.two
    by_cases hlt : k < Q.ls.length
    · by_cases hlt2 : k < 18
      · obtain ⟨bl, ol, _, ca, cc, e0, hV, a0, a1, a2, a3, a4, a5⟩ := (HQ.out.below hbw.out).at hlt
        cases e0
        have HCL := HQ.out.c k hlt
        rw [hV] at HCL
        obtain ⟨x, hx⟩ : ∃ x, x = atP Q.ls k := ⟨_, rfl⟩
        rw [← hx] at a0 a1 a2 a3 a4 a5 HCL
        have hcc : x.cl.length ≤ cc := by obtain ⟨_, _, e, h1, _⟩ := HCL; cases e; exact h1
        have HCL : Hid (∀ W0, QIs W0 (.slice (some ⟨bl, ol, none⟩) Q.ls.length lc) (.slice ma Q.ms.length mc) Q V → Cl W0 (.slice ca x.cl.length cc) x.cl) := fun W0 h0 => by have := h0.c k hlt; rw [hV, ← hx] at this; exact this
        have HX : Hid (x = atP Q.ls k) := hx
        clear hV hx
        obtain ⟨_, k7, b7, s7⟩ := alloc2 wr [.int .i64 x.cr, .bool x.tw, .int .i64 x.lf, .slice ca (min (x.cl.length : Int) 70).toNat cc, .int .i64 x.nx, .int .i64 x.ep] 94 [.int .i64 x.cr, .bool x.tw, .int .i64 x.lf, .slice ca (min (x.cl.length : Int) 70).toNat cc, .int .i64 x.nx, .int .i64 x.ep] 94
        have hown : World.ownsRow ((wr.alloc (.cells #[.int .i64 x.cr, .bool x.tw, .int .i64 x.lf, .slice ca (min (x.cl.length : Int) 70).toNat cc, .int .i64 x.nx, .int .i64 x.ep] 94)).alloc (.cells #[.int .i64 x.cr, .bool x.tw, .int .i64 x.lf, .slice ca (min (x.cl.length : Int) 70).toNat cc, .int .i64 x.nx, .int .i64 x.ep] 94)) _ _ _ _ _ _ := own_below hlan.out b7
        have hsl : Sl ((wr.alloc (.cells #[.int .i64 x.cr, .bool x.tw, .int .i64 x.lf, .slice ca (min (x.cl.length : Int) 70).toNat cc, .int .i64 x.nx, .int .i64 x.ep] 94)).alloc (.cells #[.int .i64 x.cr, .bool x.tw, .int .i64 x.lf, .slice ca (min (x.cl.length : Int) 70).toNat cc, .int .i64 x.nx, .int .i64 x.ep] 94)) 6 1 (fun _ => encP (liL x) (.slice ca (min (x.cl.length : Int) 70).toNat cc)) (.slice (some ⟨wr.heap.size + 1, 0, none⟩) 1 1) := ⟨_, _, rfl, Nat.le_refl _, (fun e => by cases e), fun j hj => ⟨wr.heap.size + 1, 0, rfl, fun f hf => by
          obtain rfl : j = 0 := by omega
          have h := k7.bx
          match f, hf with
          | 0, _ => exact h 0 _ rfl
          | 1, _ => exact h 1 _ rfl
          | 2, _ => exact h 2 _ rfl
          | 3, _ => exact h 3 _ rfl
          | 4, _ => exact h 4 _ rfl
          | 5, _ => exact h 5 _ rfl⟩⟩
        have H1P : Hid (∀ j, j < 1 → ∀ f, f < 6 → (encP (liL x) (.slice ca (min (x.cl.length : Int) 70).toNat cc) f).oneCell' = true) := fun j _ f hf => by
          match f, hf with
          | 0, _ => rfl
          | 1, _ => rfl
          | 2, _ => rfl
          | 3, _ => rfl
          | 4, _ => rfl
          | 5, _ => rfl
        have hz : w.heap.size + 1 + 1 ≤ ((wr.alloc (.cells #[.int .i64 x.cr, .bool x.tw, .int .i64 x.lf, .slice ca (min (x.cl.length : Int) 70).toNat cc, .int .i64 x.nx, .int .i64 x.ep] 94)).alloc (.cells #[.int .i64 x.cr, .bool x.tw, .int .i64 x.lf, .slice ca (min (x.cl.length : Int) 70).toNat cc, .int .i64 x.nx, .int .i64 x.ep] 94)).heap.size := Nat.le_trans hsz.out b7.size
        have B7 : Hid (Below wr.heap.size wr _) := b7
        clear k7 b7 s7
        go_wp2_with (at_builtin; refine wpList_app eltP rfl (.tmp 38) (.tmp 40) rfl (w.heap.size + 1 + 1) (.slice al k cl) (.slice (some ⟨wr.heap.size + 1, 0, none⟩) 1 1) k 1 xs (fun _ => encP (liL x) (.slice ca (min (x.cl.length : Int) 70).toNat cc)) rfl rfl hown hsl H1P.out (by omega) hz ?_; intro v8 w8 h8 hg8; obtain ⟨al', cl', rfl⟩ := own_form2 h8)
        have hgb : Below (w.heap.size + 1 + 1) _ w8 := grown_below hg8 hz fun g e => own_blk hlan.out g e
        have hwb : Below (w.heap.size + 1 + 1) wr w8 := (B7.out.mono hsz.out).trans hgb
        refine ⟨⟨k + 1, updV V' k (.slice ca (min (x.cl.length : Int) 70).toNat cc), al', cl', xs ++ cellsL 1 6 (fun _ => encP (liL x) (.slice ca (min (x.cl.length : Int) 70).toNat cc)), by omega, by omega, by go_num, rfl, h8, ?_, ?_, hq1.out.upTo hwb (by omega), hq2.out.upTo hwb (by omega), hbw.out.trans (hwb.mono (by omega)), Nat.le_trans hsz.out hwb.size⟩, by simp [intOf]; omega⟩
        · intro j hj f hf
          have hxl := hlan.out.1
          by_cases ej : j = k
          · subst ej
            rw [List.getElem?_append_right (by omega), hxl, Nat.add_sub_cancel_left]
            have := cellsL_at (n := 1) (s := 6) (c := fun _ => encP (liL x) (.slice ca (min (x.cl.length : Int) 70).toNat cc)) (j := 0) (f := f) (by omega) hf
            rw [Nat.zero_mul, Nat.zero_add] at this
            rw [this]
            unfold updV
            rw [if_pos rfl, ← HX.out]
          · rw [List.getElem?_append_left (by rw [hxl]; exact mul_lt_of (by omega) hf), hxs.out j (by omega) f hf]
            unfold updV
            rw [if_neg ej]
        · intro W0 h0 j hj
          unfold updV
          by_cases ej : j = k
          · rw [if_pos ej, ej, ← HX.out]
            have h := (HCL.out W0 h0).front (k := (min (x.cl.length : Int) 70).toNat) (by omega)
            unfold Cl
            rw [show (liL x).cl.length = (min (x.cl.length : Int) 70).toNat by simp [liL]; omega]
            refine h.congr fun i hi f _ => ?_
            unfold encI
            congr 1
            simp [atI, liL]
            rw [List.getElem?_take_of_lt (by omega)]
          · rw [if_neg ej]
            exact hcls.out W0 h0 j (by omega)
      · obtain rfl : k = 18 := by omega
        obtain ⟨f0, f1⟩ := hq2.out.bx.two
        have f2 := hq2.out.fz
        have h1 := hq1.out.fz
        go_wp2_with fail
        refine bodyPost_ret (v := quV (.slice al 18 cl) (.slice ma M mc)) (by simp [results, Try.results27, go_sem, f0, f1]) rfl ⟨_, _, V', rfl, light_ls (by simp [liQ]; omega) hk hk18 (own_set (own_set (own_set hlan.out fun e => by have := own_blk hlan.out _ e; omega) fun e => by have := own_blk hlan.out _ e; omega) fun e => by have := own_blk hlan.out _ e; omega) hxs.out, fun b e => by have := own_blk hlan.out b e; omega, fun W0 h0 => light_old h0 HM.out (by simp [liQ]; omega) hk hk18 (hcls.out W0 h0), ?_⟩
        exact ((hbw.out.setCell (Nat.le_refl _) _).setCell (Nat.le_succ _) _).setCell (Nat.le_succ _) _
    · obtain rfl : k = Q.ls.length := by omega
      obtain ⟨f0, f1⟩ := hq2.out.bx.two
      have f2 := hq2.out.fz
      have h1 := hq1.out.fz
      go_wp2_with fail
      refine bodyPost_ret (v := quV (.slice al Q.ls.length cl) (.slice ma M mc)) (by simp [results, Try.results27, go_sem, f0, f1]) rfl ⟨_, _, V', rfl, light_ls (by simp [liQ]; omega) hk hk18 (own_set (own_set (own_set hlan.out fun e => by have := own_blk hlan.out _ e; omega) fun e => by have := own_blk hlan.out _ e; omega) fun e => by have := own_blk hlan.out _ e; omega) hxs.out, fun b e => by have := own_blk hlan.out b e; omega, fun W0 h0 => light_old h0 HM.out (by simp [liQ]; omega) hk hk18 (hcls.out W0 h0), ?_⟩
      exact ((hbw.out.setCell (Nat.le_refl _) _).setCell (Nat.le_succ _) _).setCell (Nat.le_succ _) _

/-- the box of a queue, behind light -/
theorem light_box {w w2 w3 : World} {vl vm ul um : Value} {Q : Qu} {V V' : Nat → Value} {C : Nat} (hq : QIs w vl vm Q V) (hC : w.heap.size ≤ C) (hC2 : C < w2.heap.size) (hb2 : Below w.heap.size w w2) (h1 : Sl w3 6 (liQ Q).ls.length (encLs (liQ Q).ls V') ul) (h2 : ∀ b, ul.ownBlock = some b → w2.heap.size ≤ b) (h3 : ∀ W0, QIs W0 vl vm Q V → Cls W0 V' (liQ Q).ls ∧ Sl W0 4 (liQ Q).ms.length (encMs (liQ Q).ms) um) (h4 : Below w2.heap.size w2 w3) :
    QIs ((w3.setCell ⟨C, 0, none⟩ ul).setCell ⟨C, 1, none⟩ um) ul um (liQ Q) V' := by
  have hb : Below w.heap.size w ((w3.setCell ⟨C, 0, none⟩ ul).setCell ⟨C, 1, none⟩ um) := ((Below.onto hb2 h4).setCell (p := ⟨C, 0, none⟩) hC ul).setCell (p := ⟨C, 1, none⟩) hC um
  obtain ⟨h5, h6⟩ := h3 w hq
  exact ⟨(h1.setO fun e => by have := h2 _ e; omega).setO fun e => (by have := h2 _ e; omega), h5.below hb, h6.below hb⟩

end Go.Proofs.Ytimmjhegeagofaa
