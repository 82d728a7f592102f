/- container/heap's Fix; a row's Pop. -/
import Derived.Test.YtafcgbahdfaiiaaEDown
namespace Go.Proofs.Ytafcgbahdfaiiaa
open Go.RowKit Go.Sort
set_option maxRecDepth 100000

theorem Mv.trans {J : World → Prop} {X : Nat → Prop} {w w1 w2 : World} {o : Ro} {A A1 A2 : Ar} (m : Mv J X w o A w1 A1) (k : Mv J X w1 o A1 w2 A2) : Mv J X w o A w2 A2 :=
  ⟨k.rx, m.mix.trans k.mix, m.but.trans (k.but.mono fun _ h => h.elim (fun h => .inl (m.mix.hs.1 h)) .inr), k.j⟩
set_option maxHeartbeats 1000000 in
theorem efix (g : Nat) (cs : Array Value) (J : Nat → World → Prop) (c : Nat) (X : Nat → Prop) (Ord : Prop) (L : Ls g cs J X Ord) (o : Ro) (A : Ar) (i : Nat) (hi : i < A.n) (w : World) (x : Rx w o A) (hJ : J (c + 4 * A.n) w) (hlv : o.lv = .func (.func g) #[] cs) (hX : ∀ b, X b → ¬ o.has A b) :
    Calls Try.prog 52 #[rI o.r, .int .i64 (i : Int)] w fun e w' => e = .returned (.tuple #[]) ∧ ∃ A', Mv (J c) X w o A w' A' ∧ (Ord → Fx A.f A.n i → Hp A'.f A.n) := by
  have cN := elen o A w x
  have cD := edown g cs J (c + (i + 1)) X Ord L o A i hi w x (L.mt _ _ _ (by omega) hJ) hlv hX
  have hm3 : ∀ W : World, (method 215 58 (ptr o.r) "Len").run Try.prog W = .ok (32, ptr o.r) W := fun W => by kernel_rfl
  have HL : Hid (Ls g cs J X Ord) := L
  have HX : Hid (∀ b, X b → ¬ o.has A b) := hX
  clear L x hX hJ
  go_enter Try.func52, Try.ntmps52
  go_wp2_with fail
  refine cN.mono ?_
  rintro e w' ⟨rfl, hw'⟩
  subst hw'
  clear cN
  go_wp2_with fail
  refine cD.mono ?_
  rintro e w1 ⟨t, rfl, A1, M1, D1⟩
  clear cD
  cases t
  · have cU := eup g cs J c X Ord HL.out o A1 i (by have := M1.mix.n; omega) w1 M1.rx M1.j hlv (fun b hb h => HX.out b hb (M1.mix.hs.1 h))
    have HM1 : Hid (Mv (J (c + (i + 1))) X w' o A w1 A1) := M1
    have HD1 : Hid (DnA Ord A i A1 false) := D1
    clear M1 D1
    go_wp2_with fail
    refine cU.mono ?_
    rintro e w2 ⟨rfl, A2, M2, U2⟩
    clear cU
    have HM2 : Hid (Mv (J c) X w' o A w2 A2) := (HM1.out.le HL.out (by omega)).trans M2
    have HU2 : Hid (Ord → Upp A1.f A1.n i → Hp A2.f A1.n) := U2
    clear M2 U2
    go_wp2_with fail
    refine bodyPost_end (results_none rfl _ _ _) rfl ?_
    refine ⟨rfl, A2, HM2.out, fun h1 h2 => ?_⟩
    have h3 := HU2.out h1
    rw [HM1.out.mix.n] at h3
    exact h3 ((HD1.out h1 h2).2 rfl)
  · have HM1 : Hid (Mv (J c) X w' o A w1 A1) := M1.le HL.out (by omega)
    have HD1 : Hid (DnA Ord A i A1 true) := D1
    clear M1 D1
    go_wp2_with fail
    refine bodyPost_end (results_none rfl _ _ _) rfl ?_
    exact ⟨rfl, A1, HM1.out, fun h1 h2 => (HD1.out h1 h2).1 rfl⟩

theorem eslice_head (t : TypeId) (E : Try.prog.underlying t = some (.slice (Try.prog.elem t))) (a : Option Addr) (n q cap : Nat) (hq : q ≤ cap) (W : World) (hs : ∀ w, (sizeOf (Try.prog.elem t)).run Try.prog w = .ok 1 w) : (Instr.slice t (.slice a n cap) none (some (.int .i64 (q : Int))) none).run Try.prog W = .ok (.slice a q cap) W := by
  rw [run_slice_h _ t a n cap E .i64 q (by omega) (by omega), hs]
  cases a with
  | none => simp [sliced, Result.andThen]
  | some x => simp only [sliced, Result.andThen, Option.map_some, Nat.zero_mul, Nat.sub_zero, Int.toNat_natCast]; split <;> rfl
abbrev popW (w : World) (r g n cap : Nat) : World := (w.setCell ⟨g, n, none⟩ (.pointer none)).setCell ⟨r, 1, none⟩ (.slice (some ⟨g, 0, none⟩) n cap)
set_option maxHeartbeats 1000000 in
theorem epop_w (r g n cap B : Nat) (w : World) (hn : n ≤ 1000000) (hc : n + 1 ≤ cap) (h1 : w.cell? ⟨r, 1, none⟩ = some (.slice (some ⟨g, 0, none⟩) (n + 1) cap)) (p1 : w.cell? ⟨g, n, none⟩ = some (ptr B)) (f1 : w.frozen? ⟨g, n, none⟩ = false) (f2 : w.frozen? ⟨r, 1, none⟩ = false) (hrg : r ≠ g) :
    Calls Try.prog 50 #[ptr r] w fun e w' => e = .returned (.iface 70 (ptr B)) ∧ w' = popW w r g n cap := by
  have k1 : (w.setCell ⟨g, n, none⟩ (.pointer none)).cell? ⟨r, 1, none⟩ = some (.slice (some ⟨g, 0, none⟩) (n + 1) cap) := (cell_set_ne (.inl hrg)).trans h1
  have k2 : (w.setCell ⟨g, n, none⟩ (.pointer none)).frozen? ⟨r, 1, none⟩ = false := fz_set.trans f2
  have hs : ∀ W : World, (Instr.slice 83 (.slice (some ⟨g, 0, none⟩) (n + 1) cap) none (some (.int .i64 (n : Int))) none).run Try.prog W = .ok (.slice (some ⟨g, 0, none⟩) n cap) W := fun W => eslice_head _ (by kernel_rfl) _ _ _ _ (by omega) W (fun w => by kernel_rfl)
  go_enter Try.func50, Try.ntmps50
  go_wp2_with fail
  go_ret
  exact ⟨rfl, rfl⟩
end Go.Proofs.Ytafcgbahdfaiiaa
