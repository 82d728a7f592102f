/- The nodes of two lists get one badge. -/
import Derived.Test.YtiaacjollcccaaaKTell
import Derived.Test.YtiaacjollcccaaaKQuiet
namespace Go.Proofs.Ytiaacjollcccaaa
open Go.RowKit Go.Shelf
attribute [local go_sem] Oper.semAt_some

theorem Kx.grown {A B : World} {o : Pl} {s : Sx} {row : Option Nat} (h : Kx A o s) (hm : 0 < s.m) (hg : A.grownBy B row) (hr : ∀ r, row = some r → ∃ x : Obj, A.heap[r]? = some x ∧ x.isCells = false) : Kx B o s :=
  h.same hg.size fun b ho => hg.block b (h.lt b ho) fun e => by
    obtain ⟨x, hx, hc⟩ := hr b e.symm
    exact kx_cells h hm hx hc ho

theorem badges_nil (s : Sx) (g : Nat) : s.badges [] g = s := by simp [Sx.badges]
theorem badges_snoc (s : Sx) (l : List Nat) (x g : Nat) : (s.badges l g).badge x g = s.badges (l ++ [x]) g := by
  have : upd (fun j => if j ∈ l then g else s.bg j) x g = fun j => if j ∈ l ++ [x] then g else s.bg j := funext fun j => by
    simp only [upd, List.mem_append, List.mem_singleton]; grind
  show ({ s with bg := upd (fun j => if j ∈ l then g else s.bg j) x g } : Sx) = _
  rw [this]
  rfl
/-- what is known in a round of share's loop -/
def ShI (w : World) (o : Pl) (s : Sx) (t g : Nat) (pre : List (Nd s.n)) (W : World) : Prop :=
  Kx W o (s.badges (nat pre) g) ∧ Boxed W w.heap.size 23 o.ptr ∧ Boxed W (w.heap.size + 1) 3 (.int .i64 (t : Int)) ∧ But o.has w W
theorem shI_own {w : World} {o : Pl} {s : Sx} {t g B : Nat} (hm : 0 < s.m) (hB : w.heap.size ≤ B) : OwnFrom B (ShI w o s t g) := by
  rintro pre A C row ⟨h1, h2, h3, h4⟩ hg hr
  have ne : ∀ {b : Nat} {T : TypeId} {v : Value}, Boxed A b T v → some b ≠ row := fun {b T v} hb e => by
    obtain ⟨_, x, hx, hc⟩ := hr b e.symm
    rw [show A.heap[b]? = _ from hb] at hx; cases hx; cases hc
  exact ⟨h1.grown (by exact hm) hg (fun r e => (hr r e).2), h2.kept hg (ne h2), h3.kept hg (ne h3), h4.grown hg fun k e => .inr (Nat.le_trans hB (hr k e).1)⟩

set_option maxRecDepth 100000 in
set_option maxHeartbeats 4000000 in
theorem share_long (o : Pl) (s : Sx) (R : Nat → List Nat) (t f : Nat) (w : World) (h : Kx w o s) (hi : Inv s R) (ht : t < s.m) (hf : f < s.m) (hne : t ≠ f) (hlt : s.ls t < s.ls f) :
    Calls Try.prog 51 #[o.ptr, .int .i64 (t : Int), .int .i64 (f : Int)] w fun e w' => e = .returned (.tuple #[]) ∧ Kx w' o (s.share R t f) ∧ But o.has w w' := by
  have it : inR s.m (t : Int) = true := inR_iff.2 (by omega)
  have jf : inR s.m (f : Int) = true := inR_iff.2 (by omega)
  have hb0 : Below w.heap.size w ((w.alloc (.cells #[o.ptr] 23)).alloc (.cells #[.int .i64 (t : Int)] 3)) := ((Below.refl _ w).alloc (Nat.le_refl _) _).alloc (by simp) _
  have HK : Hid (Kx ((w.alloc (.cells #[o.ptr] 23)).alloc (.cells #[.int .i64 (t : Int)] 3)) o s) := h.below hb0
  have bx1 : Boxed ((w.alloc (.cells #[o.ptr] 23)).alloc (.cells #[.int .i64 (t : Int)] 3)) w.heap.size 23 o.ptr := (Boxed.new w _ _).alloc _
  have bx2 : Boxed ((w.alloc (.cells #[o.ptr] 23)).alloc (.cells #[.int .i64 (t : Int)] 3)) (w.heap.size + 1) 3 (.int .i64 (t : Int)) := by
    have := Boxed.new (w.alloc (.cells #[o.ptr] 23)) 3 (.int .i64 (t : Int))
    rwa [World.size_alloc] at this
  have HOlt : Hid (∀ b, o.has b → b < w.heap.size) := h.lt
  have HI : Hid (Inv s R) := hi
  clear h hi
  refine (callsIn_wide (n := 6)).1 ?_
  refine callsIn_of_wp_marks Try.func51 rfl trivial ?_ rfl
  simp only [Try.ntmps51, List.size_toArray, List.length_cons, List.length_nil, Nat.reduceAdd, Nat.reduceSub, Array.replicate_succ, Array.replicate_zero, List.push_toArray, List.append_toArray, List.nil_append, List.cons_append]
  gi_wp2_with fail
  generalize (w.alloc (.cells #[o.ptr] 23)).alloc (.cells #[.int .i64 (t : Int)] 3) = w1 at *
  have c1 := bx1.cell
  have c2 := bx2.cell
  refine wpIn_wide.2 ?_
  have q1 : ∀ W, Kx W o s → Calls Try.prog 18 #[o.ptr, .int .i64 (t : Int)] W fun e w' => e = .returned (.int .i64 (s.ls t : Int)) ∧ w' = W := fun W e => by
    have := len_k o s (t : Int) W e
    rwa [show lenI s (t : Int) = (s.ls t : Int) by simp [lenI, it]] at this
  have q2 : ∀ W, Kx W o s → Calls Try.prog 18 #[o.ptr, .int .i64 (f : Int)] W fun e w' => e = .returned (.int .i64 (s.ls f : Int)) ∧ w' = W := fun W e => by
    have := len_k o s (f : Int) W e
    rwa [show lenI s (f : Int) = (s.ls f : Int) by simp [lenI, jf]] at this
  have hkd := HK.out.drew
  have g1 : w1.drew.cell? ⟨w.heap.size, 0, none⟩ = some o.ptr := c1
  have g2 : w1.drew.cell? ⟨w.heap.size + 1, 0, none⟩ = some (.int .i64 (t : Int)) := c2
  go_region_held3 (fun W => W.cell? ⟨w.heap.size, 0, none⟩ = some o.ptr ∧ W.cell? ⟨w.heap.size + 1, 0, none⟩ = some (.int .i64 (t : Int)) ∧ Kx W o s) (first | assumption | exact ⟨g1, g2, hkd⟩) (first
    | (go_at_call 18; (with_reducible refine (q1 _ (show (_ ∧ _ ∧ Kx _ o s) by assumption).2.2).mono ?_); rintro e w' ⟨rfl, rfl⟩)
    | (go_at_call 18; (with_reducible refine (q2 _ (show (_ ∧ _ ∧ Kx _ o s) by assumption).2.2).mono ?_); rintro e w' ⟨rfl, rfl⟩))
  have HB2 : Hid (But o.has w w1.drew) := (But.of hb0).drew
  have HK2 : Hid (Kx w1.drew o s) := hkd
  have bx3 : Boxed w1.drew w.heap.size 23 o.ptr := bx1
  have bx4 : Boxed w1.drew (w.heap.size + 1) 3 (.int .i64 (t : Int)) := bx2
  clear HK bx1 bx2 c1 c2 g1 g2 q1 q2 hkd hb0 it jf
  generalize w1.drew = w2 at *
  have c1 := bx3.cell
  have c2 := bx4.cell
  have c3 := HK2.out.c3
  have c4 := HK2.out.f0 t ht
  gi_wp2_with fail
  refine wpIn_wide.2 ?_
  go_region
  have HB3 : Hid (But o.has w w2.drew) := HB2.out.drew
  have HK3 : Hid (Kx w2.drew o s) := HK2.out.drew
  have bx5 : Boxed w2.drew w.heap.size 23 o.ptr := bx3
  have bx6 : Boxed w2.drew (w.heap.size + 1) 3 (.int .i64 (t : Int)) := bx4
  clear HK2 HB2 bx3 bx4 c1 c2 c3 c4
  generalize w2.drew = w3 at *
  have hno1 : ¬ o.has w.heap.size := fun ho => by have := HOlt.out _ ho; omega
  have hno2 : ¬ o.has (w.heap.size + 1) := fun ho => by have := HOlt.out _ ho; omega
  have c1 := bx5.cell
  have c2 := bx6.cell
  have c3 := HK3.out.c3
  have c4 := HK3.out.f0 f hf
  have i1 : (0 : Int) ≤ (f : Int) := by omega
  have i2 : (f : Int) < (s.m : Int) := by omega
  have hlf : s.lb f < s.m + 1 := by have := HI.out.lb f hf; omega
  have hlt' : s.lb t < s.m + 1 := by have := HI.out.lb t ht; omega
  gi_wp2_with fail
  refine wpIn_wide.2 ?_
  have hkd : Kx w3.drew o s := HK3.out.drew
  go_region_held3 (fun W => W.cell? ⟨w.heap.size, 0, none⟩ = some o.ptr ∧ W.cell? ⟨w.heap.size + 1, 0, none⟩ = some (.int .i64 (t : Int)) ∧ W.cell? ⟨o.p, 3, none⟩ = some (.slice (some ⟨o.b2, 0, none⟩) s.m s.m) ∧ W.cell? ⟨o.b2, f * 2, none⟩ = some (.int .i64 (s.lb f : Int))) (first | assumption | exact ⟨c1, c2, c3, c4⟩ | exact ⟨d1, d2, d3, d4⟩)
    (first | (go_at_call 30; (with_reducible refine (wear_k o s t (s.lb f) _ hkd ht hlf).mono ?_); rintro e w4 ⟨rfl, hk4, hb4⟩; have d1 := hb4.cell (show w3.drew.cell? ⟨w.heap.size, 0, none⟩ = some o.ptr from c1) hno1; have d2 := hb4.cell (show w3.drew.cell? ⟨w.heap.size + 1, 0, none⟩ = some (.int .i64 (t : Int)) from c2) hno2; have d3 : w4.cell? ⟨o.p, 3, none⟩ = some (.slice (some ⟨o.b2, 0, none⟩) s.m s.m) := hk4.c3; have d4 : w4.cell? ⟨o.b2, f * 2, none⟩ = some (.int .i64 (s.lb f : Int)) := by have := hk4.f0 f hf; rwa [show (s.wear t (s.lb f)).lb f = s.lb f from upd_ne (Ne.symm hne)] at this))
  have HK4 : Hid (Kx w4 o (s.wear t (s.lb f))) := hk4
  have HB4 : Hid (But o.has w w4) := (HB3.out.drew).trans hb4
  have bx7 : Boxed w4 w.heap.size 23 o.ptr := (hb4.block _ bx5.lt hno1).trans bx5
  have bx8 : Boxed w4 (w.heap.size + 1) 3 (.int .i64 (t : Int)) := (hb4.block _ bx6.lt hno2).trans bx6
  clear HK3 HB3 bx5 bx6 c1 c2 c3 c4 d1 d2 d3 d4 hk4 hb4 hkd
  have c1 := bx7.cell
  have hwear := wear_k o (s.wear t (s.lb f)) f (s.lb t) w4 HK4.out hf hlt'
  gi_wp2_with (first
    | (refine ⟨trivial, ?_⟩; gi_at_call 30; refine (callsIn_wide.2 hwear).mono ?_; rintro e w5 ⟨rfl, hk5, hb5⟩; have bx1 : Boxed w5 w.heap.size 23 o.ptr := (hb5.block _ bx7.lt hno1).trans bx7; have c5 := bx1.cell)
    | (refine ⟨trivial, ?_⟩; gi_at_call 59; refine (callsIn_wide.2 (walk_any _ _ _ _ _ _)).mono ?_; rintro e w6 ⟨rfl, hw6⟩; have HW0 : Hid (w6 = _) := hw6; clear hw6))
  clear c1 hwear c5
  have HK5 : Hid (Kx w5 o (s.swap t f)) := hk5
  have HB5 : Hid (But o.has w w5) := HB4.out.trans hb5
  have bx2 : Boxed w5 (w.heap.size + 1) 3 (.int .i64 (t : Int)) := (hb5.block _ bx8.lt hno2).trans bx8
  clear HK4 HB4 bx7 bx8 hk5 hb5
  obtain ⟨s1, hs1⟩ : ∃ s1, s1 = s.swap t f := ⟨_, rfl⟩
  rw [← hs1] at HK5
  have es : s.share R t f = s1.badges (R t) (s1.lb t) := by
    rw [hs1]; unfold Sx.share; rw [if_pos hlt]
    rw [show (s.swap t f).lb t = s.lb f from by simp [Sx.swap, Sx.wear, upd, hne]]
  have hc1 : t < s1.m := by rw [hs1]; exact ht
  have ht1 : t < s1.m := hc1
  obtain ⟨r, hr⟩ : ∃ r : List (Nd s1.n), nat r = R t := lift_nd (fun x hx => by rw [hs1]; exact HI.out.rng t ht x hx)
  have hnx : Nxt s1.bh (s1.n + t) (s1.n + t) (nat r) := by rw [hr, hs1]; exact nxt_fwd (HI.out.ring t ht)
  have hnd : (nat r).Nodup := by rw [hr]; exact HI.out.nod t ht
  have hrl : r.length ≤ 70000 := by
    have h1 := len_le (HI.out.nod t ht) (HI.out.rng t ht)
    rw [← hr, nat_len] at h1
    have := HK5.out.bd.1
    have e : s1.n = s.n := by rw [hs1]; rfl
    omega
  rw [← hr] at es
  clear hr hs1
  obtain ⟨hb6, w61, w62, w63, hsz6⟩ := boxes3 HW0.out
  clear HW0
  have HK6 : Hid (Kx w6 o s1) := HK5.out.below hb6
  have HW6 : Hid (WkOk w5.heap.size (w5.heap.size + 1) (w5.heap.size + 1 + 1) o s1 t (.func (.func 40) #[o.ptr] #[]) w6) := ⟨w61, w62, w63, s1, HK6.out, rfl, rfl, rfl, rfl⟩
  have bx3 : Boxed w6 w.heap.size 23 o.ptr := (hb6.block _ bx1.lt).trans bx1
  have bx4 : Boxed w6 (w.heap.size + 1) 3 (.int .i64 (t : Int)) := (hb6.block _ bx2.lt).trans bx2
  have HB6 : Hid (But o.has w w6) := HB5.out.trans (But.of hb6)
  have hw5 : w.heap.size + 2 ≤ w5.heap.size := by have := bx2.lt; omega
  clear HK5 HB5 bx1 bx2 w61 w62 w63
  refine wpIn_rangeFunc_ownG rfl (by omega) (gf := 61) (lb := #[.pointer (some ⟨w5.heap.size, 0, none⟩), .pointer (some ⟨w5.heap.size + 1, 0, none⟩), .pointer (some ⟨w5.heap.size + 1 + 1, 0, none⟩)]) rfl trivial (enters_of Try.func61 (by kernel_rfl) rfl)
    (walkB_stops 5 (by omega) _ _ _ o s1 t hc1 r hnx hnd _ HW6.out) keepsWk_t (fun W l x x' _ hl hc _ => keepsWk_b hc1 W l x x' hl hc) (Below.refl _ _) (fun _ => rfl)
    (ShI w o s1 t (s1.lb t)) (fun _ _ _ => False) (shI_own (by omega) (by have := hb6.size; omega)) (fun _ _ _ _ _ hs _ _ => hs)
    ⟨by rw [show nat ([] : List (Nd s1.n)) = [] from rfl, badges_nil]; exact HK6.out, bx3, bx4, HB6.out⟩
    (fun x => { tmps := #[o.ptr, .int .i64 (t : Int), .int .i64 (f : Int), .pointer (some ⟨w.heap.size, 0, none⟩), .pointer (some ⟨w.heap.size + 1, 0, none⟩), undef, .int .i64 (t : Int), .int .i64 (s.lb t : Int), .int .i64 (x.1 : Int), .int .i64 (f : Int), o.ptr, .int .i64 (t : Int), .int .i64 (s.ls t : Int), o.ptr, .int .i64 (f : Int), .int .i64 (s.ls f : Int), .bool true, .int .i64 (t : Int), o.ptr, .pointer (some ⟨o.p, 0, none⟩), .pointer (some ⟨o.p, 3, none⟩), .slice (some ⟨o.b2, 0, none⟩) s.m s.m, .int .i64 (t : Int), .pointer (some ⟨o.b2, t * 2, none⟩), .pointer (some ⟨o.b2, t * 2, none⟩), .int .i64 (s.lb t : Int), o.ptr, .int .i64 (t : Int), o.ptr, .pointer (some ⟨o.p, 0, none⟩), .pointer (some ⟨o.p, 3, none⟩), .slice (some ⟨o.b2, 0, none⟩) s.m s.m, .int .i64 (f : Int), .pointer (some ⟨o.b2, f * 2, none⟩), .pointer (some ⟨o.b2, f * 2, none⟩), .int .i64 (s.lb f : Int), .tuple #[], o.ptr, .int .i64 (f : Int), .int .i64 (s.lb t : Int), .tuple #[], o.ptr, .int .i64 (t : Int), o.ptr, .func (.func 40) #[o.ptr] #[], .func (.func 61) #[] #[.pointer (some ⟨w5.heap.size, 0, none⟩), .pointer (some ⟨w5.heap.size + 1, 0, none⟩), .pointer (some ⟨w5.heap.size + 1 + 1, 0, none⟩)], .int .i64 (x.1 : Int), undef, undef, undef, undef, undef, undef, undef, undef, undef, undef, undef, undef, undef, undef, undef], defers := [] }) ?assign ?body ?done ?stop
  case assign =>
    intro l x W K hK
    gi_wp2
    exact hK
  case body =>
    rintro l pre x W ⟨h1, h2, h3, h4⟩ hlt
    have c1 := h2.cell
    have c2 := h3.cell
    have c3 := h1.c2
    have c4 := h1.c3
    have c5 : W.cell? ⟨o.b2, t * 2, none⟩ = some (.int .i64 (s1.lb t : Int)) := h1.f0 t ht1
    have c6 := h1.l2 x.1 (by have := x.2; show x.1 < s1.n + s1.m; omega)
    have c7 := h1.fz o.b1 (x.1 * 3 + 2) (.inr (.inl rfl))
    have hx := x.2
    change W.cell? _ = some (.slice _ (s1.n + s1.m) (s1.n + s1.m)) at c3
    change W.cell? _ = some (.slice _ s1.m s1.m) at c4
    have i1 : (0 : Int) ≤ (x.1 : Int) := by omega
    have i2 : (x.1 : Int) < (s1.n : Int) + (s1.m : Int) := by omega
    have i3 : (0 : Int) ≤ (t : Int) := by omega
    have i4 : (t : Int) < (s1.m : Int) := by omega
    have HP : Hid (Kx (W.setCell ⟨o.b1, x.1 * 3 + 2, none⟩ (.int .i64 (s1.lb t : Int))) o (s1.badges (nat (pre ++ [x])) (s1.lb t))) := by
      have := h1.setBg (a := x.1) (by show x.1 < s1.n + s1.m; omega) (s1.lb t)
      rw [show nat (pre ++ [x]) = nat pre ++ [x.1] by simp [nat], ← badges_snoc]
      exact this
    have HH : Hid (Kx W o (s1.badges (nat pre) (s1.lb t)) ∧ But o.has w W ∧ Boxed W w.heap.size 23 o.ptr ∧ Boxed W (w.heap.size + 1) 3 (.int .i64 (t : Int))) := ⟨h1, h4, h2, h3⟩
    clear h1 h2 h3 h4 HK6 HW6 HB6 hnx hnd bx3 bx4 HI
    gi_wp2
    have d1 : W.drew.cell? ⟨w.heap.size, 0, none⟩ = some o.ptr := c1
    have d2 : W.drew.cell? ⟨w.heap.size + 1, 0, none⟩ = some (.int .i64 (t : Int)) := c2
    have d3 : W.drew.cell? ⟨o.p, 2, none⟩ = some (.slice (some ⟨o.b1, 0, none⟩) (s1.n + s1.m) (s1.n + s1.m)) := c3
    have d4 : W.drew.cell? ⟨o.p, 3, none⟩ = some (.slice (some ⟨o.b2, 0, none⟩) s1.m s1.m) := c4
    have d5 : W.drew.cell? ⟨o.b2, t * 2, none⟩ = some (.int .i64 (s1.lb t : Int)) := c5
    have d6 : W.drew.cell? ⟨o.b1, x.1 * 3 + 2, none⟩ = some (.int .i64 ((s1.badges (nat pre) (s1.lb t)).bg x.1 : Int)) := c6
    have d7 : W.drew.frozen? ⟨o.b1, x.1 * 3 + 2, none⟩ = false := c7
    obtain ⟨af, haf⟩ : ∃ af : Act, af = { tmps := #[o.ptr, .int .i64 (t : Int), .int .i64 (f : Int), .pointer (some ⟨w.heap.size, 0, none⟩), .pointer (some ⟨w.heap.size + 1, 0, none⟩), undef, .int .i64 (t : Int), .int .i64 (s.lb t : Int), .int .i64 (x.1 : Int), .int .i64 (f : Int), o.ptr, .int .i64 (t : Int), .int .i64 (s.ls t : Int), o.ptr, .int .i64 (f : Int), .int .i64 (s.ls f : Int), .bool true, .int .i64 (t : Int), o.ptr, .pointer (some ⟨o.p, 0, none⟩), .pointer (some ⟨o.p, 3, none⟩), .slice (some ⟨o.b2, 0, none⟩) s.m s.m, .int .i64 (t : Int), .pointer (some ⟨o.b2, t * 2, none⟩), .pointer (some ⟨o.b2, t * 2, none⟩), .int .i64 (s.lb t : Int), o.ptr, .int .i64 (t : Int), o.ptr, .pointer (some ⟨o.p, 0, none⟩), .pointer (some ⟨o.p, 3, none⟩), .slice (some ⟨o.b2, 0, none⟩) s.m s.m, .int .i64 (f : Int), .pointer (some ⟨o.b2, f * 2, none⟩), .pointer (some ⟨o.b2, f * 2, none⟩), .int .i64 (s.lb f : Int), .tuple #[], o.ptr, .int .i64 (f : Int), .int .i64 (s.lb t : Int), .tuple #[], o.ptr, .int .i64 (t : Int), o.ptr, .func (.func 40) #[o.ptr] #[], .func (.func 61) #[] #[.pointer (some ⟨w5.heap.size, 0, none⟩), .pointer (some ⟨w5.heap.size + 1, 0, none⟩), .pointer (some ⟨w5.heap.size + 1 + 1, 0, none⟩)], .int .i64 (x.1 : Int), o.ptr, o.ptr, .pointer (some ⟨o.p, 2, none⟩), .slice (some ⟨o.b1, 0, none⟩) (s1.n + s1.m) (s1.n + s1.m), .int .i64 (x.1 : Int), o.ptr, o.ptr, .pointer (some ⟨o.p, 3, none⟩), .slice (some ⟨o.b2, 0, none⟩) s1.m s1.m, .int .i64 (t : Int), .pointer (some ⟨o.b2, t * 2, none⟩), .pointer (some ⟨o.b2, t * 2, none⟩), .int .i64 (s1.lb t : Int), .pointer (some ⟨o.b1, x.1 * 3, none⟩), .pointer (some ⟨o.b1, x.1 * 3 + 2, none⟩)], defers := [] } := ⟨_, rfl⟩
    have g3 : af.tmps[3]? = some (.pointer (some ⟨w.heap.size, 0, none⟩)) := by rw [haf]; kernel_rfl
    have g4 : af.tmps[4]? = some (.pointer (some ⟨w.heap.size + 1, 0, none⟩)) := by rw [haf]; kernel_rfl
    have g8 : af.tmps[8]? = some (.int .i64 (x.1 : Int)) := by rw [haf]; kernel_rfl
    have g47 : af.tmps[47]? = some (o.ptr) := by rw [haf]; kernel_rfl
    have g48 : af.tmps[48]? = some (o.ptr) := by rw [haf]; kernel_rfl
    have g49 : af.tmps[49]? = some (.pointer (some ⟨o.p, 2, none⟩)) := by rw [haf]; kernel_rfl
    have g50 : af.tmps[50]? = some (.slice (some ⟨o.b1, 0, none⟩) (s1.n + s1.m) (s1.n + s1.m)) := by rw [haf]; kernel_rfl
    have g51 : af.tmps[51]? = some (.int .i64 (x.1 : Int)) := by rw [haf]; kernel_rfl
    have g52 : af.tmps[52]? = some (o.ptr) := by rw [haf]; kernel_rfl
    have g53 : af.tmps[53]? = some (o.ptr) := by rw [haf]; kernel_rfl
    have g54 : af.tmps[54]? = some (.pointer (some ⟨o.p, 3, none⟩)) := by rw [haf]; kernel_rfl
    have g55 : af.tmps[55]? = some (.slice (some ⟨o.b2, 0, none⟩) s1.m s1.m) := by rw [haf]; kernel_rfl
    have g56 : af.tmps[56]? = some (.int .i64 (t : Int)) := by rw [haf]; kernel_rfl
    have g57 : af.tmps[57]? = some (.pointer (some ⟨o.b2, t * 2, none⟩)) := by rw [haf]; kernel_rfl
    have g58 : af.tmps[58]? = some (.pointer (some ⟨o.b2, t * 2, none⟩)) := by rw [haf]; kernel_rfl
    have g59 : af.tmps[59]? = some (.int .i64 (s1.lb t : Int)) := by rw [haf]; kernel_rfl
    have g60 : af.tmps[60]? = some (.pointer (some ⟨o.b1, x.1 * 3, none⟩)) := by rw [haf]; kernel_rfl
    have g61 : af.tmps[61]? = some (.pointer (some ⟨o.b1, x.1 * 3 + 2, none⟩)) := by rw [haf]; kernel_rfl
    refine wpIn_region_reads2 (w' := W.drew.setCell ⟨o.b1, x.1 * 3 + 2, none⟩ (.int .i64 (s1.lb t : Int))) (by simp) (by kernel_rfl) (by kernel_rfl) af (by rw [haf]; kernel_rfl) ?_ ?_ ?_
    · clear haf
      refine ⟨⟨47, _, rfl, g47, ?_⟩, ⟨48, _, rfl, g48, ?_⟩, ⟨49, _, rfl, g49, ?_⟩, ⟨50, _, rfl, g50, ?_⟩, ⟨51, _, rfl, g51, ?_⟩, ⟨52, _, rfl, g52, ?_⟩, ⟨53, _, rfl, g53, ?_⟩, ⟨54, _, rfl, g54, ?_⟩, ⟨55, _, rfl, g55, ?_⟩, ⟨56, _, rfl, g56, ?_⟩, ⟨57, _, rfl, g57, ?_⟩, ⟨58, _, rfl, g58, ?_⟩, ⟨59, _, rfl, g59, ?_⟩, ⟨60, _, rfl, g60, ?_⟩, ⟨61, _, rfl, g61, ?_⟩, trivial⟩
      all_goals go_simp
    · clear haf
      show (execOp af.eval { dst := none, op := Op.store 3 (.tmp 61) (.tmp 59), type := 0, pos := _, after := _, guard := none }).run Try.prog W.drew = _
      go_simp
    · have hB : But o.has W (W.drew.setCell ⟨o.b1, x.1 * 3 + 2, none⟩ (.int .i64 (s1.lb t : Int))) := (But.refl _ W).drew.setCell (.inr (.inl rfl)) _
      have hk : Kx (W.drew.setCell ⟨o.b1, x.1 * 3 + 2, none⟩ (.int .i64 (s1.lb t : Int))) o (s1.badges (nat (pre ++ [x])) (s1.lb t)) := HP.out.same (Nat.le_refl _) fun _ _ => rfl
      obtain ⟨_, k1, k2, k3⟩ := HH.out
      have hb1 : o.b1 < w.heap.size := HOlt.out _ (.inr (.inl rfl))
      have nob : ∀ b, w.heap.size ≤ b → ¬ o.has b := fun b hb ho => by have := HOlt.out b ho; omega
      show KeepsFrom _ W _ ∧ KeepsWk _ _ _ o s1 t _ W _ ∧ ShI w o s1 t (s1.lb t) (pre ++ [x]) _
      refine ⟨((KeepsOthers.drew W).trans (KeepsOthers.setCell W.drew _ _)).from _, ?_, hk, (hB.block _ k2.lt hno1).trans k2, (hB.block _ k3.lt hno2).trans k3, k1.trans hB⟩
      rintro ⟨y1, y2, y3, s', y4, e1, e2, e3, e4⟩
      refine ⟨(hB.block _ (Boxed.lt y1) (nob _ (by omega))).trans y1, (hB.block _ (Boxed.lt y2) (nob _ (by omega))).trans y2, (hB.block _ (Boxed.lt y3) (nob _ (by omega))).trans y3, _, y4.drew.setBg (a := x.1) (by omega) (s1.lb t), e1, e2, e3, e4⟩
  case done =>
    rintro D ys W hD rfl ⟨h1, h2, h3, h4⟩ hK
    rw [← es] at h1
    have HF : Hid (Kx W o (s.share R t f) ∧ But o.has w W) := ⟨h1, h4⟩
    clear h1 h2 h3 h4 HK6 HW6 HB6 hnx hnd bx3 bx4 HI
    gi_wp2
    refine ⟨by simp, .inl ⟨_, _, rfl, run_takeDeferred hK, ?_⟩⟩
    have hm : 0 < (s.share R t f).m := by rw [es]; show 0 < s1.m; omega
    exact ⟨_, results_none rfl _ _ _, rfl, HF.out.1.putObj hm _ hK rfl, HF.out.2.grown (grownBy_putObj' W D _) fun k e => .inr (by cases e; omega)⟩
  case stop =>
    rintro D c pre W _ _ h _
    exact h.elim

set_option maxRecDepth 100000 in
set_option maxHeartbeats 4000000 in
theorem share_short (o : Pl) (s : Sx) (R : Nat → List Nat) (t f : Nat) (w : World) (h : Kx w o s) (hi : Inv s R) (ht : t < s.m) (hf : f < s.m) (hlt : ¬ s.ls t < s.ls f) :
    Calls Try.prog 51 #[o.ptr, .int .i64 (t : Int), .int .i64 (f : Int)] w fun e w' => e = .returned (.tuple #[]) ∧ Kx w' o (s.share R t f) ∧ But o.has w w' := by
  have it : inR s.m (t : Int) = true := inR_iff.2 (by omega)
  have jf : inR s.m (f : Int) = true := inR_iff.2 (by omega)
  have hb0 : Below w.heap.size w ((w.alloc (.cells #[o.ptr] 23)).alloc (.cells #[.int .i64 (t : Int)] 3)) := ((Below.refl _ w).alloc (Nat.le_refl _) _).alloc (by simp) _
  have HK : Hid (Kx ((w.alloc (.cells #[o.ptr] 23)).alloc (.cells #[.int .i64 (t : Int)] 3)) o s) := h.below hb0
  have bx1 : Boxed ((w.alloc (.cells #[o.ptr] 23)).alloc (.cells #[.int .i64 (t : Int)] 3)) w.heap.size 23 o.ptr := (Boxed.new w _ _).alloc _
  have bx2 : Boxed ((w.alloc (.cells #[o.ptr] 23)).alloc (.cells #[.int .i64 (t : Int)] 3)) (w.heap.size + 1) 3 (.int .i64 (t : Int)) := by
    have := Boxed.new (w.alloc (.cells #[o.ptr] 23)) 3 (.int .i64 (t : Int))
    rwa [World.size_alloc] at this
  have HOlt : Hid (∀ b, o.has b → b < w.heap.size) := h.lt
  have HI : Hid (Inv s R) := hi
  clear h hi
  refine (callsIn_wide (n := 6)).1 ?_
  refine callsIn_of_wp_marks Try.func51 rfl trivial ?_ rfl
  simp only [Try.ntmps51, List.size_toArray, List.length_cons, List.length_nil, Nat.reduceAdd, Nat.reduceSub, Array.replicate_succ, Array.replicate_zero, List.push_toArray, List.append_toArray, List.nil_append, List.cons_append]
  gi_wp2_with fail
  generalize (w.alloc (.cells #[o.ptr] 23)).alloc (.cells #[.int .i64 (t : Int)] 3) = w1 at *
  have c1 := bx1.cell
  have c2 := bx2.cell
  refine wpIn_wide.2 ?_
  have q1 : ∀ W, Kx W o s → Calls Try.prog 18 #[o.ptr, .int .i64 (t : Int)] W fun e w' => e = .returned (.int .i64 (s.ls t : Int)) ∧ w' = W := fun W e => by
    have := len_k o s (t : Int) W e
    rwa [show lenI s (t : Int) = (s.ls t : Int) by simp [lenI, it]] at this
  have q2 : ∀ W, Kx W o s → Calls Try.prog 18 #[o.ptr, .int .i64 (f : Int)] W fun e w' => e = .returned (.int .i64 (s.ls f : Int)) ∧ w' = W := fun W e => by
    have := len_k o s (f : Int) W e
    rwa [show lenI s (f : Int) = (s.ls f : Int) by simp [lenI, jf]] at this
  have hkd := HK.out.drew
  have g1 : w1.drew.cell? ⟨w.heap.size, 0, none⟩ = some o.ptr := c1
  have g2 : w1.drew.cell? ⟨w.heap.size + 1, 0, none⟩ = some (.int .i64 (t : Int)) := c2
  go_region_held3 (fun W => W.cell? ⟨w.heap.size, 0, none⟩ = some o.ptr ∧ W.cell? ⟨w.heap.size + 1, 0, none⟩ = some (.int .i64 (t : Int)) ∧ Kx W o s) (first | assumption | exact ⟨g1, g2, hkd⟩) (first
    | (go_at_call 18; (with_reducible refine (q1 _ (show (_ ∧ _ ∧ Kx _ o s) by assumption).2.2).mono ?_); rintro e w' ⟨rfl, rfl⟩)
    | (go_at_call 18; (with_reducible refine (q2 _ (show (_ ∧ _ ∧ Kx _ o s) by assumption).2.2).mono ?_); rintro e w' ⟨rfl, rfl⟩))
  have HB5 : Hid (But o.has w w1.drew) := (But.of hb0).drew
  have HK5 : Hid (Kx w1.drew o s) := hkd
  have bx3 : Boxed w1.drew w.heap.size 23 o.ptr := bx1
  have bx4 : Boxed w1.drew (w.heap.size + 1) 3 (.int .i64 (t : Int)) := bx2
  clear HK bx1 bx2 c1 c2 g1 g2 q1 q2 hkd hb0 it jf
  generalize w1.drew = w5 at *
  have bx1 := bx3
  have bx2 := bx4
  clear bx3 bx4
  have hno1 : ¬ o.has w.heap.size := fun ho => by have := HOlt.out _ ho; omega
  have hno2 : ¬ o.has (w.heap.size + 1) := fun ho => by have := HOlt.out _ ho; omega
  have c1 := bx1.cell
  gi_wp2_with (refine ⟨trivial, ?_⟩; gi_at_call 59; refine (callsIn_wide.2 (walk_any _ _ _ _ _ _)).mono ?_; rintro e w6 ⟨rfl, hw6⟩; have HW0 : Hid (w6 = _) := hw6; clear hw6)
  clear c1
  obtain ⟨s1, hs1⟩ : ∃ s1, s1 = s := ⟨_, rfl⟩
  rw [← hs1] at HK5
  have es : s.share R t f = s1.badges (R f) (s1.lb t) := by
    rw [hs1]; unfold Sx.share; rw [if_neg hlt]
  have hc1 : f < s1.m := by rw [hs1]; exact hf
  have ht1 : t < s1.m := by rw [hs1]; exact ht
  obtain ⟨r, hr⟩ : ∃ r : List (Nd s1.n), nat r = R f := lift_nd (fun x hx => by rw [hs1]; exact HI.out.rng f hf x hx)
  have hnx : Nxt s1.bh (s1.n + f) (s1.n + f) (nat r) := by rw [hr, hs1]; exact nxt_fwd (HI.out.ring f hf)
  have hnd : (nat r).Nodup := by rw [hr]; exact HI.out.nod f hf
  have hrl : r.length ≤ 70000 := by
    have h1 := len_le (HI.out.nod f hf) (HI.out.rng f hf)
    rw [← hr, nat_len] at h1
    have := HK5.out.bd.1
    have e : s1.n = s.n := by rw [hs1]
    omega
  rw [← hr] at es
  clear hr hs1
  obtain ⟨hb6, w61, w62, w63, hsz6⟩ := boxes3 HW0.out
  clear HW0
  have HK6 : Hid (Kx w6 o s1) := HK5.out.below hb6
  have HW6 : Hid (WkOk w5.heap.size (w5.heap.size + 1) (w5.heap.size + 1 + 1) o s1 f (.func (.func 40) #[o.ptr] #[]) w6) := ⟨w61, w62, w63, s1, HK6.out, rfl, rfl, rfl, rfl⟩
  have bx3 : Boxed w6 w.heap.size 23 o.ptr := (hb6.block _ bx1.lt).trans bx1
  have bx4 : Boxed w6 (w.heap.size + 1) 3 (.int .i64 (t : Int)) := (hb6.block _ bx2.lt).trans bx2
  have HB6 : Hid (But o.has w w6) := HB5.out.trans (But.of hb6)
  have hw5 : w.heap.size + 2 ≤ w5.heap.size := by have := bx2.lt; omega
  clear HK5 HB5 bx1 bx2 w61 w62 w63
  refine wpIn_rangeFunc_ownG rfl (by omega) (gf := 61) (lb := #[.pointer (some ⟨w5.heap.size, 0, none⟩), .pointer (some ⟨w5.heap.size + 1, 0, none⟩), .pointer (some ⟨w5.heap.size + 1 + 1, 0, none⟩)]) rfl trivial (enters_of Try.func61 (by kernel_rfl) rfl)
    (walkB_stops 5 (by omega) _ _ _ o s1 f hc1 r hnx hnd _ HW6.out) keepsWk_t (fun W l x x' _ hl hc _ => keepsWk_b hc1 W l x x' hl hc) (Below.refl _ _) (fun _ => rfl)
    (ShI w o s1 t (s1.lb t)) (fun _ _ _ => False) (shI_own (by omega) (by have := hb6.size; omega)) (fun _ _ _ _ _ hs _ _ => hs)
    ⟨by rw [show nat ([] : List (Nd s1.n)) = [] from rfl, badges_nil]; exact HK6.out, bx3, bx4, HB6.out⟩
    (fun x => { tmps := #[o.ptr, .int .i64 (t : Int), .int .i64 (f : Int), .pointer (some ⟨w.heap.size, 0, none⟩), .pointer (some ⟨w.heap.size + 1, 0, none⟩), undef, .int .i64 (f : Int), undef, .int .i64 (x.1 : Int), .int .i64 (f : Int), o.ptr, .int .i64 (t : Int), .int .i64 (s.ls t : Int), o.ptr, .int .i64 (f : Int), .int .i64 (s.ls f : Int), .bool false, undef, undef, undef, undef, undef, undef, undef, undef, undef, undef, undef, undef, undef, undef, undef, undef, undef, undef, undef, undef, undef, undef, undef, undef, o.ptr, .int .i64 (f : Int), o.ptr, .func (.func 40) #[o.ptr] #[], .func (.func 61) #[] #[.pointer (some ⟨w5.heap.size, 0, none⟩), .pointer (some ⟨w5.heap.size + 1, 0, none⟩), .pointer (some ⟨w5.heap.size + 1 + 1, 0, none⟩)], .int .i64 (x.1 : Int), undef, undef, undef, undef, undef, undef, undef, undef, undef, undef, undef, undef, undef, undef, undef], defers := [] }) ?assign ?body ?done ?stop
  case assign =>
    intro l x W K hK
    gi_wp2
    exact hK
  case body =>
    rintro l pre x W ⟨h1, h2, h3, h4⟩ hlt
    have c1 := h2.cell
    have c2 := h3.cell
    have c3 := h1.c2
    have c4 := h1.c3
    have c5 : W.cell? ⟨o.b2, t * 2, none⟩ = some (.int .i64 (s1.lb t : Int)) := h1.f0 t ht1
    have c6 := h1.l2 x.1 (by have := x.2; show x.1 < s1.n + s1.m; omega)
    have c7 := h1.fz o.b1 (x.1 * 3 + 2) (.inr (.inl rfl))
    have hx := x.2
    change W.cell? _ = some (.slice _ (s1.n + s1.m) (s1.n + s1.m)) at c3
    change W.cell? _ = some (.slice _ s1.m s1.m) at c4
    have i1 : (0 : Int) ≤ (x.1 : Int) := by omega
    have i2 : (x.1 : Int) < (s1.n : Int) + (s1.m : Int) := by omega
    have i3 : (0 : Int) ≤ (t : Int) := by omega
    have i4 : (t : Int) < (s1.m : Int) := by omega
    have HP : Hid (Kx (W.setCell ⟨o.b1, x.1 * 3 + 2, none⟩ (.int .i64 (s1.lb t : Int))) o (s1.badges (nat (pre ++ [x])) (s1.lb t))) := by
      have := h1.setBg (a := x.1) (by show x.1 < s1.n + s1.m; omega) (s1.lb t)
      rw [show nat (pre ++ [x]) = nat pre ++ [x.1] by simp [nat], ← badges_snoc]
      exact this
    have HH : Hid (Kx W o (s1.badges (nat pre) (s1.lb t)) ∧ But o.has w W ∧ Boxed W w.heap.size 23 o.ptr ∧ Boxed W (w.heap.size + 1) 3 (.int .i64 (t : Int))) := ⟨h1, h4, h2, h3⟩
    clear h1 h2 h3 h4 HK6 HW6 HB6 hnx hnd bx3 bx4 HI
    gi_wp2
    have d1 : W.drew.cell? ⟨w.heap.size, 0, none⟩ = some o.ptr := c1
    have d2 : W.drew.cell? ⟨w.heap.size + 1, 0, none⟩ = some (.int .i64 (t : Int)) := c2
    have d3 : W.drew.cell? ⟨o.p, 2, none⟩ = some (.slice (some ⟨o.b1, 0, none⟩) (s1.n + s1.m) (s1.n + s1.m)) := c3
    have d4 : W.drew.cell? ⟨o.p, 3, none⟩ = some (.slice (some ⟨o.b2, 0, none⟩) s1.m s1.m) := c4
    have d5 : W.drew.cell? ⟨o.b2, t * 2, none⟩ = some (.int .i64 (s1.lb t : Int)) := c5
    have d6 : W.drew.cell? ⟨o.b1, x.1 * 3 + 2, none⟩ = some (.int .i64 ((s1.badges (nat pre) (s1.lb t)).bg x.1 : Int)) := c6
    have d7 : W.drew.frozen? ⟨o.b1, x.1 * 3 + 2, none⟩ = false := c7
    obtain ⟨af, haf⟩ : ∃ af : Act, af = { tmps := #[o.ptr, .int .i64 (t : Int), .int .i64 (f : Int), .pointer (some ⟨w.heap.size, 0, none⟩), .pointer (some ⟨w.heap.size + 1, 0, none⟩), undef, .int .i64 (f : Int), undef, .int .i64 (x.1 : Int), .int .i64 (f : Int), o.ptr, .int .i64 (t : Int), .int .i64 (s.ls t : Int), o.ptr, .int .i64 (f : Int), .int .i64 (s.ls f : Int), .bool false, undef, undef, undef, undef, undef, undef, undef, undef, undef, undef, undef, undef, undef, undef, undef, undef, undef, undef, undef, undef, undef, undef, undef, undef, o.ptr, .int .i64 (f : Int), o.ptr, .func (.func 40) #[o.ptr] #[], .func (.func 61) #[] #[.pointer (some ⟨w5.heap.size, 0, none⟩), .pointer (some ⟨w5.heap.size + 1, 0, none⟩), .pointer (some ⟨w5.heap.size + 1 + 1, 0, none⟩)], .int .i64 (x.1 : Int), o.ptr, o.ptr, .pointer (some ⟨o.p, 2, none⟩), .slice (some ⟨o.b1, 0, none⟩) (s1.n + s1.m) (s1.n + s1.m), .int .i64 (x.1 : Int), o.ptr, o.ptr, .pointer (some ⟨o.p, 3, none⟩), .slice (some ⟨o.b2, 0, none⟩) s1.m s1.m, .int .i64 (t : Int), .pointer (some ⟨o.b2, t * 2, none⟩), .pointer (some ⟨o.b2, t * 2, none⟩), .int .i64 (s1.lb t : Int), .pointer (some ⟨o.b1, x.1 * 3, none⟩), .pointer (some ⟨o.b1, x.1 * 3 + 2, none⟩)], defers := [] } := ⟨_, rfl⟩
    have g3 : af.tmps[3]? = some (.pointer (some ⟨w.heap.size, 0, none⟩)) := by rw [haf]; kernel_rfl
    have g4 : af.tmps[4]? = some (.pointer (some ⟨w.heap.size + 1, 0, none⟩)) := by rw [haf]; kernel_rfl
    have g8 : af.tmps[8]? = some (.int .i64 (x.1 : Int)) := by rw [haf]; kernel_rfl
    have g47 : af.tmps[47]? = some (o.ptr) := by rw [haf]; kernel_rfl
    have g48 : af.tmps[48]? = some (o.ptr) := by rw [haf]; kernel_rfl
    have g49 : af.tmps[49]? = some (.pointer (some ⟨o.p, 2, none⟩)) := by rw [haf]; kernel_rfl
    have g50 : af.tmps[50]? = some (.slice (some ⟨o.b1, 0, none⟩) (s1.n + s1.m) (s1.n + s1.m)) := by rw [haf]; kernel_rfl
    have g51 : af.tmps[51]? = some (.int .i64 (x.1 : Int)) := by rw [haf]; kernel_rfl
    have g52 : af.tmps[52]? = some (o.ptr) := by rw [haf]; kernel_rfl
    have g53 : af.tmps[53]? = some (o.ptr) := by rw [haf]; kernel_rfl
    have g54 : af.tmps[54]? = some (.pointer (some ⟨o.p, 3, none⟩)) := by rw [haf]; kernel_rfl
    have g55 : af.tmps[55]? = some (.slice (some ⟨o.b2, 0, none⟩) s1.m s1.m) := by rw [haf]; kernel_rfl
    have g56 : af.tmps[56]? = some (.int .i64 (t : Int)) := by rw [haf]; kernel_rfl
    have g57 : af.tmps[57]? = some (.pointer (some ⟨o.b2, t * 2, none⟩)) := by rw [haf]; kernel_rfl
    have g58 : af.tmps[58]? = some (.pointer (some ⟨o.b2, t * 2, none⟩)) := by rw [haf]; kernel_rfl
    have g59 : af.tmps[59]? = some (.int .i64 (s1.lb t : Int)) := by rw [haf]; kernel_rfl
    have g60 : af.tmps[60]? = some (.pointer (some ⟨o.b1, x.1 * 3, none⟩)) := by rw [haf]; kernel_rfl
    have g61 : af.tmps[61]? = some (.pointer (some ⟨o.b1, x.1 * 3 + 2, none⟩)) := by rw [haf]; kernel_rfl
    refine wpIn_region_reads2 (w' := W.drew.setCell ⟨o.b1, x.1 * 3 + 2, none⟩ (.int .i64 (s1.lb t : Int))) (by simp) (by kernel_rfl) (by kernel_rfl) af (by rw [haf]; kernel_rfl) ?_ ?_ ?_
    · clear haf
      refine ⟨⟨47, _, rfl, g47, ?_⟩, ⟨48, _, rfl, g48, ?_⟩, ⟨49, _, rfl, g49, ?_⟩, ⟨50, _, rfl, g50, ?_⟩, ⟨51, _, rfl, g51, ?_⟩, ⟨52, _, rfl, g52, ?_⟩, ⟨53, _, rfl, g53, ?_⟩, ⟨54, _, rfl, g54, ?_⟩, ⟨55, _, rfl, g55, ?_⟩, ⟨56, _, rfl, g56, ?_⟩, ⟨57, _, rfl, g57, ?_⟩, ⟨58, _, rfl, g58, ?_⟩, ⟨59, _, rfl, g59, ?_⟩, ⟨60, _, rfl, g60, ?_⟩, ⟨61, _, rfl, g61, ?_⟩, trivial⟩
      all_goals go_simp
    · clear haf
      show (execOp af.eval { dst := none, op := Op.store 3 (.tmp 61) (.tmp 59), type := 0, pos := _, after := _, guard := none }).run Try.prog W.drew = _
      go_simp
    · have hB : But o.has W (W.drew.setCell ⟨o.b1, x.1 * 3 + 2, none⟩ (.int .i64 (s1.lb t : Int))) := (But.refl _ W).drew.setCell (.inr (.inl rfl)) _
      have hk : Kx (W.drew.setCell ⟨o.b1, x.1 * 3 + 2, none⟩ (.int .i64 (s1.lb t : Int))) o (s1.badges (nat (pre ++ [x])) (s1.lb t)) := HP.out.same (Nat.le_refl _) fun _ _ => rfl
      obtain ⟨_, k1, k2, k3⟩ := HH.out
      have hb1 : o.b1 < w.heap.size := HOlt.out _ (.inr (.inl rfl))
      have nob : ∀ b, w.heap.size ≤ b → ¬ o.has b := fun b hb ho => by have := HOlt.out b ho; omega
      show KeepsFrom _ W _ ∧ KeepsWk _ _ _ o s1 f _ W _ ∧ ShI w o s1 t (s1.lb t) (pre ++ [x]) _
      refine ⟨((KeepsOthers.drew W).trans (KeepsOthers.setCell W.drew _ _)).from _, ?_, hk, (hB.block _ k2.lt hno1).trans k2, (hB.block _ k3.lt hno2).trans k3, k1.trans hB⟩
      rintro ⟨y1, y2, y3, s', y4, e1, e2, e3, e4⟩
      refine ⟨(hB.block _ (Boxed.lt y1) (nob _ (by omega))).trans y1, (hB.block _ (Boxed.lt y2) (nob _ (by omega))).trans y2, (hB.block _ (Boxed.lt y3) (nob _ (by omega))).trans y3, _, y4.drew.setBg (a := x.1) (by omega) (s1.lb t), e1, e2, e3, e4⟩
  case done =>
    rintro D ys W hD rfl ⟨h1, h2, h3, h4⟩ hK
    rw [← es] at h1
    have HF : Hid (Kx W o (s.share R t f) ∧ But o.has w W) := ⟨h1, h4⟩
    clear h1 h2 h3 h4 HK6 HW6 HB6 hnx hnd bx3 bx4 HI
    gi_wp2
    refine ⟨by simp, .inl ⟨_, _, rfl, run_takeDeferred hK, ?_⟩⟩
    have hm : 0 < (s.share R t f).m := by rw [es]; show 0 < s1.m; omega
    exact ⟨_, results_none rfl _ _ _, rfl, HF.out.1.putObj hm _ hK rfl, HF.out.2.grown (grownBy_putObj' W D _) fun k e => .inr (by cases e; omega)⟩
  case stop =>
    rintro D c pre W _ _ h _
    exact h.elim

theorem share_k (o : Pl) (s : Sx) (R : Nat → List Nat) (t f : Nat) (w : World) (h : Kx w o s) (hi : Inv s R) (ht : t < s.m) (hf : f < s.m) (hne : t ≠ f) :
    Calls Try.prog 51 #[o.ptr, .int .i64 (t : Int), .int .i64 (f : Int)] w fun e w' => e = .returned (.tuple #[]) ∧ Kx w' o (s.share R t f) ∧ But o.has w w' := by
  by_cases hlt : s.ls t < s.ls f
  · exact share_long o s R t f w h hi ht hf hne hlt
  · exact share_short o s R t f w h hi ht hf hlt

end Go.Proofs.Ytiaacjollcccaaa
