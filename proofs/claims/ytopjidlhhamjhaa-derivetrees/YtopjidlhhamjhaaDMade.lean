/- A forest of 16 nodes behind some calls. -/
import Derived.Test.YtopjidlhhamjhaaDAlive
import Derived.Test.YtopjidlhhamjhaaUMem
namespace Go.Proofs.Ytopjidlhhamjhaa
open Go.RowKit Go.Shelf
attribute [local go_sem] Oper.semAt_some
set_option maxRecDepth 100000

/-- a call -/
structure DOp where
  k : Int
  a : Int
  b : Int
def encD (o : DOp) : Nat → Value
  | 0 => .int .i64 o.k
  | 1 => .int .i64 o.a
  | _ => .int .i64 o.b
def mdS (o : DOp) (L : List Fe) : List Fe := if o.k = 1 then rootL 16 L o.a else if o.k = 2 then derL 16 L o.a o.b else if o.k = 3 then wout L (cutT 16 L o.a) else wout L (pruT 16 L o.a)
def mdL (g : Nat → DOp) : Nat → List Fe
  | 0 => []
  | n + 1 => mdS (g n) (mdL g n)
set_option maxHeartbeats 4000000 in
theorem dmade_k (ad : Option Addr) (len cap : Nat) (g : Nat → DOp) (w : World) (hs : Rd w ad len 3 (fun j => encD (g j))) :
    Calls Try.prog 17 #[.slice ad len cap] w fun e w' => ∃ a : Fp, e = .returned a.ptr ∧ Fm w w' a 16 (mdL g (min len 50)) := by
  have HS : Hid (Rd w ad len 3 (fun j => encD (g j))) := hs
  have hnew := dnew_k 16 (by omega) w
  clear hs
  go_enter Try.func17, Try.ntmps17
  go_wp2_with fail
  refine hnew.mono ?_
  rintro e w1 ⟨a, rfl, hf1, hb1, hge⟩
  have M1 : Hid (Fm w w1 a 16 []) := ⟨hf1, hge, hb1⟩
  clear hnew hf1 hb1 hge
  go_wp2_with fail
  go_loopw [5] (fun i wr => ∃ j : Nat, j ≤ len ∧ j ≤ 50 ∧ i = .int .i64 j ∧ Hid (Fm w wr a 16 (mdL g j))) (fun i _ => len - (intOf i).toNat)
  case atStart => exact ⟨0, Nat.zero_le _, Nat.zero_le _, rfl, M1⟩
  case round =>
    obtain ⟨j, hj, hj50, rfl, hI⟩ := hrel
    by_cases hlt : j < len
    · by_cases h50 : j < 50
      · obtain ⟨b, off, rfl, hcell⟩ := HS.out j hlt
        have k0 : w.cell? ⟨b, off + j * 3, none⟩ = some (.int .i64 (g j).k) := hcell 0 (by omega)
        have k1 : w.cell? ⟨b, off + j * 3 + 1, none⟩ = some (.int .i64 (g j).a) := hcell 1 (by omega)
        have k2 : w.cell? ⟨b, off + j * 3 + 2, none⟩ = some (.int .i64 (g j).b) := hcell 2 (by omega)
        have hB := hI.out.2.2
        have HB0 : Hid (b < w.heap.size) := cell_lt k0
        have m0 := (hB.cell (p := ⟨b, off + j * 3, none⟩) (cell_lt k0)).trans k0
        have m1 := (hB.cell (p := ⟨b, off + j * 3 + 1, none⟩) (cell_lt k1)).trans k1
        have m2 := (hB.cell (p := ⟨b, off + j * 3 + 2, none⟩) (cell_lt k2)).trans k2
        clear k0 k1 k2 hB hcell
        have HX : Hid (mdL g (j + 1) = mdS (g j) (mdL g j)) := rfl
        obtain ⟨q, hq⟩ : ∃ q, g j = q := ⟨_, rfl⟩
        rw [hq] at m0 m1 m2 HX
        obtain ⟨L, hL⟩ : ∃ L, mdL g j = L := ⟨_, rfl⟩
        rw [hL] at HX hI
        clear hq hL
        obtain ⟨k, x, y⟩ := q
        simp only at m0 m1 m2
        by_cases h1 : k = 1
        · subst h1
          have HE : Hid (mdL g (j + 1) = rootL 16 L x) := by show _ = _; rw [HX.out]; simp [mdS]
          have hc := root_k hI.out.1 x
          go_wp2_with fail
          refine hc.mono ?_
          rintro e w5 ⟨rfl, hf, hb⟩
          have M5 : Hid (Fm w w5 a 16 (mdL g (j + 1))) := hI.out.act (HE.out ▸ hf) hb
          clear hc hf hb HX HE
          go_wp2_with fail
          go_roundw
          case rel => exact ⟨j + 1, by omega, by omega, by go_num, M5⟩
          case measure => simp [intOf]; omega
        by_cases h2 : k = 2
        · subst h2
          have hnS : ¬ a.has b := fun h => by have := hI.out.2.1 _ h; have := HB0.out; omega
          have HE : Hid (mdL g (j + 1) = derL 16 L x y) := by show _ = _; rw [HX.out]; simp [mdS]
          have hc := fun W (hW : Below wr.heap.size wr W) => derive_k (hI.out.1.below hW) x y
          have toS : ∀ W, Below wr.heap.size wr W → W.cell? ⟨b, off + j * 3 + 1, none⟩ = some (.int .i64 x) ∧ W.cell? ⟨b, off + j * 3 + 2, none⟩ = some (.int .i64 y) := fun W hW => ⟨(hW.cell (p := ⟨b, off + j * 3 + 1, none⟩) (cell_lt m1)).trans m1, (hW.cell (p := ⟨b, off + j * 3 + 2, none⟩) (cell_lt m2)).trans m2⟩
          have hm1 := cell_lt m1
          go_wp2_with fail
          go_region_held3 (fun W => W.cell? ⟨b, off + j * 3 + 1, none⟩ = some (.int .i64 x) ∧ W.cell? ⟨b, off + j * 3 + 2, none⟩ = some (.int .i64 y)) (first | (with_reducible assumption) | exact toS _ (Below.refl _ _).drew | exact toS _ (Below.refl _ _) | exact ⟨hW5.cell m1 hnS, hW5.cell m2 hnS⟩) (first | (go_at_call 26; (with_reducible refine (hc _ (Below.refl _ _).drew).mono ?_); rintro v w5 ⟨rfl, hf, hb⟩; have hW5 : But a.has wr w5 := (But.refl a.has wr).drew.trans hb))
          have M5 : Hid (Fm w w5 a 16 (mdL g (j + 1))) := hI.out.act (HE.out ▸ hf) hW5
          clear hc hf hb HX HE hW5
          go_wp2_with fail
          go_roundw
          case rel => exact ⟨j + 1, by omega, by omega, by go_num, M5⟩
          case measure => simp [intOf]; omega
        by_cases h3 : k = 3
        · subst h3
          have HE : Hid (mdL g (j + 1) = wout L (cutT 16 L x)) := by show _ = _; rw [HX.out]; simp [mdS]
          have hc := cut_k hI.out.1 x
          go_wp2_with fail
          refine hc.mono ?_
          rintro e w5 ⟨v, rfl, hf, _, hb⟩
          have M5 : Hid (Fm w w5 a 16 (mdL g (j + 1))) := hI.out.act (HE.out ▸ hf) hb
          clear hc hf hb HX HE
          go_wp2_with fail
          go_roundw
          case rel => exact ⟨j + 1, by omega, by omega, by go_num, M5⟩
          case measure => simp [intOf]; omega
        · have hk : True := trivial
          have HE : Hid (mdL g (j + 1) = wout L (pruT 16 L x)) := by show _ = _; rw [HX.out]; simp [mdS, h1, h2, h3]
          have hc := prune_k hI.out.1 x
          go_wp2_with fail
          refine hc.mono ?_
          rintro e w5 ⟨v, rfl, hf, _, hb⟩
          have M5 : Hid (Fm w w5 a 16 (mdL g (j + 1))) := hI.out.act (HE.out ▸ hf) hb
          clear hc hf hb HX HE
          go_wp2_with fail
          go_roundw
          case rel => exact ⟨j + 1, by omega, by omega, by go_num, M5⟩
          case measure => simp [intOf]; omega
      · obtain rfl : j = 50 := by omega
        have HE : Hid (min len 50 = 50) := by show _ = _; omega
        go_wp2_with fail
        go_ret
        rw [HE.out]
        exact ⟨a, rfl, hI.out⟩
    · obtain rfl : j = len := by omega
      have HE : Hid (min j 50 = j) := by show _ = _; omega
      go_wp2_with fail
      go_ret
      rw [HE.out]
      exact ⟨a, rfl, hI.out⟩
end Go.Proofs.Ytopjidlhhamjhaa
