/- queue's small functions on one lane. -/
import Derived.Test.YtkgehbonijpdnaaUMem
namespace Go.Proofs.Ytkgehbonijpdnaa
open Go.RowKit Go.Sort
set_option maxRecDepth 100000

theorem within_any (x lo hi : Int) (w : World) : Calls Try.prog 44 #[.int .i64 x, .int .i64 lo, .int .i64 hi] w fun e w' => e = .returned (.bool (win x lo hi)) ∧ w' = w := by
  by_cases h : lo ≤ x
  · go_enter Try.func44, Try.ntmps44
    go_wp2_with fail
    go_ret
    exact ⟨ret_bool (by simp [win, h]), rfl⟩
  · have h' : x < lo := by omega
    go_enter Try.func44, Try.ntmps44
    go_wp2_with fail
    go_ret
    exact ⟨ret_bool (by simp [win]; omega), rfl⟩
abbrev seV (l : PLn) (v : Value) (q : Nat) : Value := .agg #[.int .i64 l.cr, .bool l.tw, .int .i64 l.lf, v, .int .i64 l.nx, .int .i64 l.ep, .int .i64 (q : Int)]
theorem taken_any (l : PLn) (a : Option Addr) (cap q : Nat) (w : World) (hc : hasCr l = true) (hl : l.cl.length ≤ 1000) (hq : q ≤ 1000) :
    Calls Try.prog 30 #[seV l (.slice a l.cl.length cap) q] w fun e w' => e = .returned (.int .i64 (tkn l q)) ∧ Below w.heap.size w w' := by
  obtain ⟨⟨h1, h2⟩, h3, h4⟩ := hasCr_iff.1 hc
  clear hc
  go_enter Try.func30, Try.ntmps30
  go_wp2_with fail
  go_ret
  exact ⟨ret_int (by unfold tkn; omega), below_new _ _⟩
theorem hasCredit_any (l : PLn) (v : Value) (q : Nat) (w : World) : Calls Try.prog 39 #[seV l v q] w fun e w' => e = .returned (.bool (hasCr l)) ∧ Below w.heap.size w w' := by
  go_enter Try.func39, Try.ntmps39
  go_wp2_with (go_at_call 44; refine (within_any _ _ _ _).mono ?_; rintro e w' ⟨rfl, rfl⟩)
  all_goals
    go_ret
    exact ⟨ret_bool (by simp [hasCr, *]), below_new _ _⟩
theorem hasNumbers_any (l : PLn) (v : Value) (q : Nat) (w : World) : Calls Try.prog 40 #[seV l v q] w fun e w' => e = .returned (.bool (hasNo l)) ∧ Below w.heap.size w w' := by
  go_enter Try.func40, Try.ntmps40
  go_wp2_with (go_at_call 44; refine (within_any _ _ _ _).mono ?_; rintro e w' ⟨rfl, rfl⟩)
  all_goals
    go_ret
    exact ⟨ret_bool (by simp [hasNo, mxC, *]), below_new _ _⟩
theorem isCovered_any (l : PLn) (a : Option Addr) (cap q : Nat) (w : World) (hc : hasCr l = true) (hl : l.cl.length ≤ 1000) (hq : q ≤ 1000) :
    Calls Try.prog 41 #[seV l (.slice a l.cl.length cap) q] w fun e w' => e = .returned (.bool (covB l q)) ∧ Below w.heap.size w w' := by
  have ht := fun W => taken_any l a cap q W hc hl hq
  clear hc
  go_enter Try.func41, Try.ntmps41
  go_wp2_with fail
  refine (ht _).mono ?_
  rintro e w1 ⟨rfl, hb⟩
  go_wp2_with fail
  go_ret
  exact ⟨rfl, Below.onto (below_new _ _) hb⟩
theorem ris_drop {nx lo : Int} {l : List Int} {k : Nat} (h : k < l.length) : ris nx lo (l.drop k) = (win (atI l k) lo (nx - 1) && ris nx (atI l k + 1) (l.drop (k + 1))) := by
  rw [atI_eq h, List.drop_eq_getElem_cons h, ris]
set_option maxHeartbeats 1000000 in
theorem rises_any (l : PLn) (v : Value) (q : Nat) (w : World) (hn : hasNo l = true) (hl : l.cl.length ≤ 1000) (hc : Cl w v l.cl) :
    Calls Try.prog 42 #[seV l v q] w fun e w' => e = .returned (.bool (ris l.nx 0 l.cl)) ∧ Below w.heap.size w w' := by
  obtain ⟨⟨h1, h2⟩, _, _⟩ := hasNo_iff.1 hn
  clear hn
  obtain ⟨a, cap, rfl, hcap, _, hr⟩ := hc
  have HR : Hid (Rd _ a l.cl.length 1 (encI l.cl)) := hr.below (below_new w (.cells #[.int .i64 l.cr, .bool l.tw, .int .i64 l.lf, .slice a l.cl.length cap, .int .i64 l.nx, .int .i64 l.ep, .int .i64 (q : Int)] 74))
  clear hr
  go_enter Try.func42, Try.ntmps42
  go_wp2_with fail
  go_loop [3, 10] (fun t i => ∃ (k : Nat) (lo : Int), k ≤ l.cl.length ∧ i = .int .i64 k ∧ t = .int .i64 lo ∧ 0 ≤ lo ∧ Hid (ris l.nx 0 l.cl = ris l.nx lo (l.cl.drop k))) (fun _ i => l.cl.length - (intOf i).toNat)
  case atStart => exact ⟨0, 0, Nat.zero_le _, rfl, rfl, by omega, rfl⟩
  case round =>
    obtain ⟨k, lo, hk, rfl, rfl, hlo, hall⟩ := hrel
    by_cases hlt : k < l.cl.length
    · obtain ⟨b, off, rfl, hcell⟩ := HR.out k hlt
      have h0 : _ = some (Value.int .i64 (atI l.cl k)) := hcell 0 (by omega)
      rw [Nat.mul_one, Nat.add_zero] at h0
      have HD : Hid (_ = _) := (ris_drop (nx := l.nx) (lo := lo) hlt)
      generalize atI l.cl k = x at *
      cases hw : win x lo (l.nx - 1)
      · go_wp2_with (go_at_call 44; refine (within_any _ _ _ _).mono ?_; rintro e w' ⟨rfl, rfl⟩)
        go_ret
        exact ⟨ret_bool (by rw [hall.out, HD.out, hw]; rfl), below_new _ _⟩
      · obtain ⟨g1, g2⟩ := win_iff.1 hw
        go_wp2_with (go_at_call 44; refine (within_any _ _ _ _).mono ?_; rintro e w' ⟨rfl, rfl⟩)
        go_round
        case rel => exact ⟨k + 1, x + 1, by omega, by go_num, rfl, by omega, by show _ = _; rw [hall.out, HD.out, hw]; rfl⟩
        case measure => simp [intOf]; omega
    · obtain rfl : k = l.cl.length := by omega
      go_wp2_with fail
      go_ret
      exact ⟨ret_bool (by rw [hall.out, List.drop_length]; rfl), below_new _ _⟩
abbrev fnV (f : Nat) : Value := .func (.func f) #[] #[]
theorem rules_any (w : World) : Calls Try.prog 37 #[] w fun e w' => e = .returned (.slice (some ⟨w.heap.size, 0, none⟩) 4 4) ∧ w' = w.alloc (.cells #[.func (.func 39) #[] #[], .func (.func 40) #[] #[], .func (.func 41) #[] #[], .func (.func 42) #[] #[]] 82) := by
  go_enter Try.func37, Try.ntmps37
  go_wp2
  go_ret
  exact ⟨rfl, rfl⟩
set_option maxHeartbeats 4000000 in
theorem mayBe_any (l : PLn) (v : Value) (q : Nat) (w : World) (hl : l.cl.length ≤ 1000) (hq : q ≤ 1000) (hc : Cl w v l.cl) :
    Calls Try.prog 32 #[seV l v q] w fun e w' => e = .returned (.bool (okL l q)) ∧ Below w.heap.size w w' := by
  have HC : Hid (Cl w v l.cl) := hc
  obtain ⟨a, cap, rfl, hcap, _, hr⟩ := hc
  clear hr
  have h1 := fun W => hasCredit_any l (.slice a l.cl.length cap) q W
  have h2 := fun W => hasNumbers_any l (.slice a l.cl.length cap) q W
  have H3 : Hid (_ → ∀ W, Calls ..) := fun h W => isCovered_any l a cap q W h hl hq
  have H4 : Hid (_ → ∀ W, _ → Calls ..) := fun h W hW => rises_any l (.slice a l.cl.length cap) q W h hl hW
  have x1 := bx_new w [.int .i64 l.cr, .bool l.tw, .int .i64 l.lf, .slice a l.cl.length cap, .int .i64 l.nx, .int .i64 l.ep, .int .i64 (q : Int)] 74
  have b1 := below_new w (.cells #[.int .i64 l.cr, .bool l.tw, .int .i64 l.lf, .slice a l.cl.length cap, .int .i64 l.nx, .int .i64 l.ep, .int .i64 (q : Int)] 74)
  go_enter Try.func32, Try.ntmps32
  go_wp2_with (go_at_call 37; refine (rules_any _).mono ?_; rintro e w' ⟨rfl, rfl⟩)
  have x2 := bx_at (w.alloc (.cells #[.int .i64 l.cr, .bool l.tw, .int .i64 l.lf, .slice a l.cl.length cap, .int .i64 l.nx, .int .i64 l.ep, .int .i64 (q : Int)] 74)) (w.heap.size + 1) (by simp) [.func (.func 39) #[] #[], .func (.func 40) #[] #[], .func (.func 41) #[] #[], .func (.func 42) #[] #[]] 82
  have b2 := below_new (w.alloc (.cells #[.int .i64 l.cr, .bool l.tw, .int .i64 l.lf, .slice a l.cl.length cap, .int .i64 l.nx, .int .i64 l.ep, .int .i64 (q : Int)] 74)) (.cells #[.func (.func 39) #[] #[], .func (.func 40) #[] #[], .func (.func 41) #[] #[], .func (.func 42) #[] #[]] 82)
  have X1 : Hid (Bx _ _ _) := x1.below b2
  have X2 : Hid (Bx _ _ _) := x2
  have B2 : Hid (Below _ _ _) := Below.onto b1 b2
  clear x1 x2 b1 b2
  generalize (w.alloc (.cells #[.int .i64 l.cr, .bool l.tw, .int .i64 l.lf, .slice a l.cl.length cap, .int .i64 l.nx, .int .i64 l.ep, .int .i64 (q : Int)] 74)).alloc (.cells #[.func (.func 39) #[] #[], .func (.func 40) #[] #[], .func (.func 41) #[] #[], .func (.func 42) #[] #[]] 82) = w2 at *
  go_loopw [7] (fun i wr => ∃ k : Nat, k ≤ 4 ∧ i = .int .i64 k ∧ Below w2.heap.size w2 wr ∧ (0 < k → hasCr l = true) ∧ (1 < k → hasNo l = true) ∧ (2 < k → covB l q = true) ∧ (3 < k → ris l.nx 0 l.cl = true)) (fun i _ => 4 - (intOf i).toNat)
  case atStart => exact ⟨0, by omega, rfl, Below.refl _ _, fun h => absurd h (by omega), fun h => absurd h (by omega), fun h => absurd h (by omega), fun h => absurd h (by omega)⟩
  case round =>
    obtain ⟨k, hk, rfl, hb, c0, c1, c2, c3⟩ := hrel
    obtain rfl | rfl | rfl | rfl | rfl : k = 0 ∨ k = 1 ∨ k = 2 ∨ k = 3 ∨ k = 4 := by omega
    · obtain ⟨p0, p1, p2, p3, p4, p5, p6⟩ := (X1.out.below hb).seven
      obtain ⟨r0, r1, r2, r3⟩ := (X2.out.below hb).four
      cases hB : hasCr l
      · go_wp2_with fail
        refine (h1 _).mono ?_
        rintro e w1 ⟨rfl, hb1⟩
        go_wp2_with fail
        go_ret
        exact ⟨ret_bool (by simp [okL, hB]), Below.onto (Below.onto B2.out hb) hb1⟩
      · go_wp2_with fail
        refine (h1 _).mono ?_
        rintro e w1 ⟨rfl, hb1⟩
        go_wp2_with fail
        go_roundw
        case rel => exact ⟨1, by omega, rfl, Below.onto hb hb1, fun _ => by first | exact hB | trivial, fun h => absurd h (by omega), fun h => absurd h (by omega), fun h => absurd h (by omega)⟩
        case measure => simp [intOf]
    · obtain ⟨p0, p1, p2, p3, p4, p5, p6⟩ := (X1.out.below hb).seven
      obtain ⟨r0, r1, r2, r3⟩ := (X2.out.below hb).four
      cases hB : hasNo l
      · go_wp2_with fail
        refine (h2 _).mono ?_
        rintro e w1 ⟨rfl, hb1⟩
        go_wp2_with fail
        go_ret
        exact ⟨ret_bool (by simp [okL, c0 (by omega), hB]), Below.onto (Below.onto B2.out hb) hb1⟩
      · go_wp2_with fail
        refine (h2 _).mono ?_
        rintro e w1 ⟨rfl, hb1⟩
        go_wp2_with fail
        go_roundw
        case rel => exact ⟨2, by omega, rfl, Below.onto hb hb1, fun _ => c0 (by omega), fun _ => by first | exact hB | trivial, fun h => absurd h (by omega), fun h => absurd h (by omega)⟩
        case measure => simp [intOf]
    · obtain ⟨p0, p1, p2, p3, p4, p5, p6⟩ := (X1.out.below hb).seven
      obtain ⟨r0, r1, r2, r3⟩ := (X2.out.below hb).four
      cases hB : covB l q
      · go_wp2_with fail
        refine (H3.out (c0 (by omega)) _).mono ?_
        rintro e w1 ⟨rfl, hb1⟩
        go_wp2_with fail
        go_ret
        exact ⟨ret_bool (by simp [okL, c0 (by omega), c1 (by omega), hB]), Below.onto (Below.onto B2.out hb) hb1⟩
      · go_wp2_with fail
        refine (H3.out (c0 (by omega)) _).mono ?_
        rintro e w1 ⟨rfl, hb1⟩
        go_wp2_with fail
        go_roundw
        case rel => exact ⟨3, by omega, rfl, Below.onto hb hb1, fun _ => c0 (by omega), fun _ => c1 (by omega), fun _ => by first | exact hB | trivial, fun h => absurd h (by omega)⟩
        case measure => simp [intOf]
    · obtain ⟨p0, p1, p2, p3, p4, p5, p6⟩ := (X1.out.below hb).seven
      obtain ⟨r0, r1, r2, r3⟩ := (X2.out.below hb).four
      cases hB : ris l.nx 0 l.cl
      · go_wp2_with fail
        refine (H4.out (c1 (by omega)) _ (HC.out.below (Below.onto B2.out hb))).mono ?_
        rintro e w1 ⟨rfl, hb1⟩
        go_wp2_with fail
        go_ret
        exact ⟨ret_bool (by simp [okL, c0 (by omega), c1 (by omega), c2 (by omega), hB]), Below.onto (Below.onto B2.out hb) hb1⟩
      · go_wp2_with fail
        refine (H4.out (c1 (by omega)) _ (HC.out.below (Below.onto B2.out hb))).mono ?_
        rintro e w1 ⟨rfl, hb1⟩
        go_wp2_with fail
        go_roundw
        case rel => exact ⟨4, by omega, rfl, Below.onto hb hb1, fun _ => c0 (by omega), fun _ => c1 (by omega), fun _ => c2 (by omega), fun _ => by first | exact hB | trivial⟩
        case measure => simp [intOf]
    · go_wp2_with fail
      go_ret
      exact ⟨ret_bool (by simp [okL, c0 (by omega), c1 (by omega), c2 (by omega), c3 (by omega)]), Below.onto B2.out hb⟩

end Go.Proofs.Ytkgehbonijpdnaa
