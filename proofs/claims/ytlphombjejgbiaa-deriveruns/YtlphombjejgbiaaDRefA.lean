/- The document's New, Root, Derive. -/
import Derived.Test.YtlphombjejgbiaaDReg
import Derived.Test.YtlphombjejgbiaaDNew
import Derived.Test.YtlphombjejgbiaaJSeq
namespace Go.Proofs.Ytlphombjejgbiaa
open Go.RowKit Go.Sort
set_option maxRecDepth 100000

theorem rnew12_ok (n : Nat) (hn : n ≤ 1024) (w : World) :
    Calls Try.prog 7 #[.int .i64 (n : Int)] w fun e w' => e = .returned (.tuple #[.pointer (some ⟨w.heap.size, 0, none⟩), .int .i64 0]) ∧ Rf w' w.heap.size (.slice none 0 0) n [] ∧ Below w.heap.size w w' := by
  have h1 : (n : Int) ≤ 1024 := by omega
  have h2 : ¬ (1024 : Int) < (n : Int) := by omega
  have h3 : (0 : Int) ≤ (n : Int) := by omega
  go_enter Try.func7, Try.ntmps7
  go_wp2_with fail
  go_ret2
  exact ⟨rfl, ⟨World.alloc_heap_new w _, World.ownsRow_nil _ _ _ _, by rintro ⟨⟩, fok_nil n, hn⟩, (Below.refl _ w).alloc (Nat.le_refl _) _⟩
theorem rnew12_bad (x : Int) (h : x < 0 ∨ 1024 < x) (w : World) :
    Calls Try.prog 7 #[.int .i64 x] w fun e w' => e = .returned (.tuple #[.pointer none, .int .i64 1]) ∧ w' = w := by
  rcases h with h1 | h1
  · go_enter Try.func7, Try.ntmps7
    go_wp2_with fail
    go_ret2
    exact ⟨rfl, rfl⟩
  · have h2 : ¬ x < 0 := by omega
    go_enter Try.func7, Try.ntmps7
    go_wp2_with fail
    go_ret2
    exact ⟨rfl, rfl⟩
/-- what a call makes of it -/
def RfGo (w : World) (r : Nat) (rv : Value) (w' : World) (N : Nat) (L' : List Fe) : Prop := ∃ rv', Rf w' r rv' N L' ∧ But (fun b => b = r) w w' ∧ ∀ b, rv'.ownBlock = some b → rv.ownBlock = some b ∨ w.heap.size ≤ b
section
variable {w : World} {r : Nat} {rv : Value} {N : Nat} {L : List Fe}
theorem Rf.stay (x : Rf w r rv N L) : RfGo w r rv w N L := ⟨rv, x, But.refl _ w, fun _ h => .inl h⟩
/-- a row that was made anew is stored -/
theorem Rf.store {W W' : World} {vD : Value} {L' : List Fe} (x : Rf w r rv N L) (hW : Below w.heap.size w W) (ho : W.ownsRow w.heap.size 81 2 vD L'.length (encF L')) (hk : Fok N L') (e : W' = W.setCell ⟨r, 1, none⟩ vD) : RfGo w r rv W' N L' := by
  subst e
  have x9 := x.below hW
  have hr := x.lt
  have hne : ¬ vD.ownBlock = some r := fun h => by have := (fown_lt ho h).1; omega
  refine ⟨vD, ⟨?_, ?_, hne, hk, x.hN⟩, (But.of hW).setCell (S := fun b => b = r) (p := ⟨r, 1, none⟩) rfl _, fun b hb => .inr (fown_lt ho hb).1⟩
  · exact heap_setCell_same W r 1 _ _ vD x9.bl
  · exact own_mono (fown_same ho fun b hb => Below.heap_setCell _ _ _ _ (by rintro rfl; exact hne hb)) (Nat.zero_le _)
theorem fappend_src {t e : TypeId} {size bytes : Nat} {z : Value} (E0 : Elt t e size bytes z) {w : World} (ty : TypeId) (base : Nat) (v u : Value) (n m : Nat) (xs ys : List Value)
    (hown : w.ownsRow base e size v n xs) (hu : Src w u m ys) (hl2 : ys.length = m * size) (h1 : ∀ y ∈ ys, y.oneCell' = true) (hl : n + m ≤ 1000000) (hbase : base ≤ w.heap.size) :
    ∃ v' w', (Builtin.append_ #[t, t] ty #[v, u]).run Try.prog w = .ok v' w' ∧ w'.ownsRow base e size v' (n + m) (xs ++ ys) ∧ w.grownBy w' v.ownBlock := by
  obtain ⟨i0, hi, hz0, hz1, hz2⟩ := info_parts E0.hi
  rcases hu with ⟨rfl, rfl⟩ | ⟨g, off, c, rfl, hc⟩
  · have hys : ys = [] := List.length_eq_zero_iff.1 (by rw [hl2, Nat.zero_mul])
    subst hys
    exact ⟨v, w, run_append_owned_none (P := Try.prog) (w := w) base t ty e i0 size E0.ht hi v n xs hown, by simpa using hown, World.grownBy.refl w _⟩
  · have h64 : (n + m) * bytes ≤ 140737488355328 := by
      have := Nat.mul_le_mul hl E0.hb
      omega
    obtain ⟨v', w', h2, h3, h4, _⟩ := run_append_own_at (P := Try.prog) w base t ty e i0 z size bytes E0.ht hi hz0 hz1 hz2 E0.hz E0.hs v n xs hown ⟨g, off, none⟩ m c ys hl2 (fun j y hj => by rw [Go.WideShapes.add_plain]; exact hc j y hj) h1 (by unfold maxLen; omega) h64 hbase
    exact ⟨v', w', h2, h3, h4⟩
/-- the row made anew, with one more -/
theorem Rf.snoc (x : Rf w r rv N L) (e : Fe) : ∃ v1 w3 v2 w4, (Builtin.append_ #[70, 70] 70 #[.slice (some ⟨w.heap.size, 0, none⟩) 0 0, rv]).run Try.prog (w.alloc (.cells #[] 81)) = .ok v1 w3 ∧
    (Builtin.append_ #[70, 70] 70 #[v1, .slice (some ⟨w3.heap.size, 0, none⟩) 1 1]).run Try.prog (w3.alloc (.cells #[.int .i64 (e.n : Int), .int .i64 e.p] 81)) = .ok v2 w4 ∧
    w4.ownsRow w.heap.size 81 2 v2 (L ++ [e]).length (encF (L ++ [e])) ∧ Below w.heap.size w w4 := by
  have hlen : L.length ≤ 1024 := Nat.le_trans x.ok.len x.hN
  have hb1 : Below w.heap.size w (w.alloc (.cells #[] 81)) := (Below.refl _ w).alloc (Nat.le_refl _) _
  obtain ⟨v1, w3, hr1, ow1, gr1⟩ := fappend_src eltEn 70 w.heap.size _ rv 0 L.length [] (encF L) (gown_0 w w.heap.size 81 2 (Nat.le_refl _)) ((gsrc_own x.ow).below hb1) (encF_len L) (encF_one L) (by omega) hb1.size
  have hb3 := gown_below hb1 hb1.size (gown_0 w w.heap.size 81 2 (Nat.le_refl _)) gr1
  rw [List.nil_append, Nat.zero_add] at ow1
  have hb4 : Below w3.heap.size w3 (w3.alloc (.cells #[.int .i64 (e.n : Int), .int .i64 e.p] 81)) := (Below.refl _ w3).alloc (Nat.le_refl _) _
  have sr : Src (w3.alloc (.cells #[.int .i64 (e.n : Int), .int .i64 e.p] 81)) (.slice (some ⟨w3.heap.size, 0, none⟩) 1 1) 1 [.int .i64 (e.n : Int), .int .i64 e.p] := gsrc_own (gown_1 w3 0 81 2 [.int .i64 (e.n : Int), .int .i64 e.p] rfl (Nat.zero_le _))
  have hbb := Below.onto hb3 hb4
  obtain ⟨v2, w4, hr2, ow2, gr2⟩ := fappend_src eltEn 70 w.heap.size v1 _ L.length 1 (encF L) [.int .i64 (e.n : Int), .int .i64 e.p] (down_stay ow1 hb4) sr rfl (by simp [Value.oneCell']) (by omega) hbb.size
  exact ⟨v1, w3, v2, w4, hr1, hr2, by rw [List.length_append, encF_app]; exact ow2, gown_below hbb hbb.size (down_stay ow1 hb4) gr2⟩
set_option maxHeartbeats 4000000 in
theorem rroot12 (x : Rf w r rv N L) (n : Int) : Calls Try.prog 26 #[.pointer (some ⟨r, 0, none⟩), .int .i64 n] w fun e w' => e = .returned (.int .i64 (rootE N L n)) ∧ RfGo w r rv w' N (rootL N L n) := by
  have hi := ris12 x n
  have hh := rhas12 x n
  cases hin : inR N n
  · rw [hin] at hi
    have e1 : rootE N L n = 120 := by simp [rootE, hin]
    have e2 : rootL N L n = L := by simp [rootL, e1]
    rw [e1, e2]
    have HX : Hid (RfGo w r rv w N L) := x.stay
    clear x hh e1 e2
    go_enter Try.func26, Try.ntmps26
    go_wp2_with fail
    refine hi.mono ?_
    rintro e w1 ⟨rfl, rfl⟩
    go_wp2_with fail
    go_ret
    exact ⟨rfl, HX.out⟩
  · rw [hin] at hi
    have hhe : hasF N L n = decide (n.toNat ∈ nds L) := by simp [hasF, hin]
    cases hm : decide (n.toNat ∈ nds L)
    · rw [hhe, hm] at hh
      have e1 : rootE N L n = 0 := by unfold rootE; rw [hin, hm]; rfl
      have e2 : rootL N L n = L ++ [⟨n.toNat, -1⟩] := by simp [rootL, e1]
      rw [e1, e2]
      obtain ⟨k, rfl⟩ : ∃ k : Nat, n = (k : Int) := ⟨n.toNat, by have := (inR_iff.1 hin).1; omega⟩
      have hk : Fok N (L ++ [⟨k, -1⟩]) := by
        have := x.ok.root (k : Int)
        rwa [e2] at this
      rw [Int.toNat_natCast] at *
      obtain ⟨av, cv, hv⟩ := x.form
      subst hv
      obtain ⟨v1, w3, v2, w4, hr1, hr2, ho, hB⟩ := x.snoc ⟨k, -1⟩
      obtain ⟨a2, cc2, rfl, hx1, hx2⟩ := fown_form ho
      clear hx1 hx2
      dsimp only at hr2
      have HR : Hid (RfGo w r (.slice av L.length cv) (w4.setCell ⟨r, 1, none⟩ (.slice a2 (L ++ [(⟨k, -1⟩ : Fe)]).length cc2)) N (L ++ [⟨k, -1⟩])) := x.store hB ho hk rfl
      have c1 := (x.below ((Below.refl _ w).alloc (Nat.le_refl _) (.cells #[] 81))).c1
      have c4 := (x.below hB).c1
      have f4 := (x.below hB).fz 1
      clear x hhe e1 e2 hm hin hk ho hB
      generalize L.length = M at *
      generalize (L ++ [(⟨k, -1⟩ : Fe)]).length = M2 at *
      go_enter Try.func26, Try.ntmps26
      go_wp2_with fail
      refine hi.mono ?_
      rintro e w1 ⟨rfl, rfl⟩
      go_wp2_with fail
      refine hh.mono ?_
      rintro e w1 ⟨rfl, rfl⟩
      go_wp2_with (at_builtin; first | refine wpList_append_run rfl _ _ _ rfl _ _ _ rfl rfl hr1 ?_ | refine wpList_append_run rfl _ _ _ rfl _ _ _ rfl rfl hr2 ?_)
      go_ret
      exact ⟨rfl, HR.out⟩
    · rw [hhe, hm] at hh
      have e1 : rootE N L n = 121 := by unfold rootE; rw [hin, hm]; rfl
      have e2 : rootL N L n = L := by simp [rootL, e1]
      rw [e1, e2]
      have HX : Hid (RfGo w r rv w N L) := x.stay
      clear x e1 e2 hhe hm hin
      go_enter Try.func26, Try.ntmps26
      go_wp2_with fail
      refine hi.mono ?_
      rintro e w1 ⟨rfl, rfl⟩
      go_wp2_with fail
      refine hh.mono ?_
      rintro e w1 ⟨rfl, rfl⟩
      go_wp2_with fail
      go_ret
      exact ⟨rfl, HX.out⟩
set_option maxHeartbeats 4000000 in
theorem rder12 (x : Rf w r rv N L) (p n : Int) : Calls Try.prog 27 #[.pointer (some ⟨r, 0, none⟩), .int .i64 p, .int .i64 n] w fun e w' => e = .returned (.int .i64 (derE N L p n)) ∧ RfGo w r rv w' N (derL N L p n) := by
  have hip := ris12 x p
  have hin := ris12 x n
  have hhn := rhas12 x n
  have hhp := rhas12 x p
  cases ep : inR N p
  · rw [ep] at hip
    have e1 : derE N L p n = 120 := by simp [derE, ep]
    have e2 : derL N L p n = L := by simp [derL, e1]
    rw [e1, e2]
    have HX : Hid (RfGo w r rv w N L) := x.stay
    clear x hhn hhp hin e1 e2
    go_enter Try.func27, Try.ntmps27
    go_wp2_with fail
    refine hip.mono ?_
    rintro e w1 ⟨rfl, rfl⟩
    go_wp2_with fail
    go_ret
    exact ⟨rfl, HX.out⟩
  · rw [ep] at hip
    cases en : inR N n
    · rw [en] at hin
      have e1 : derE N L p n = 120 := by simp [derE, ep, en]
      have e2 : derL N L p n = L := by simp [derL, e1]
      rw [e1, e2]
      have HX : Hid (RfGo w r rv w N L) := x.stay
      clear x hhn hhp e1 e2
      go_enter Try.func27, Try.ntmps27
      go_wp2_with fail
      refine hip.mono ?_
      rintro e w1 ⟨rfl, rfl⟩
      go_wp2_with fail
      refine hin.mono ?_
      rintro e w1 ⟨rfl, rfl⟩
      go_wp2_with fail
      go_ret
      exact ⟨rfl, HX.out⟩
    · rw [en] at hin
      have hhe : hasF N L n = decide (n.toNat ∈ nds L) := by simp [hasF, en]
      have hpe : hasF N L p = decide (p.toNat ∈ nds L) := by simp [hasF, ep]
      cases hm : decide (n.toNat ∈ nds L)
      · rw [hhe, hm] at hhn
        cases hm2 : decide (p.toNat ∈ nds L)
        · rw [hpe, hm2] at hhp
          have e1 : derE N L p n = 122 := by unfold derE; rw [ep, en, hm, hm2]; rfl
          have e2 : derL N L p n = L := by simp [derL, e1]
          rw [e1, e2]
          have HX : Hid (RfGo w r rv w N L) := x.stay
          clear x e1 e2 hhe hpe hm hm2
          go_enter Try.func27, Try.ntmps27
          go_wp2_with fail
          refine hip.mono ?_
          rintro e w1 ⟨rfl, rfl⟩
          go_wp2_with fail
          refine hin.mono ?_
          rintro e w1 ⟨rfl, rfl⟩
          go_wp2_with fail
          refine hhn.mono ?_
          rintro e w1 ⟨rfl, rfl⟩
          go_wp2_with fail
          refine hhp.mono ?_
          rintro e w1 ⟨rfl, rfl⟩
          go_wp2_with fail
          go_ret
          exact ⟨rfl, HX.out⟩
        · rw [hpe, hm2] at hhp
          have e1 : derE N L p n = 0 := by unfold derE; rw [ep, en, hm, hm2]; rfl
          have e2 : derL N L p n = L ++ [⟨n.toNat, p⟩] := by simp [derL, e1]
          rw [e1, e2]
          obtain ⟨k, rfl⟩ : ∃ k : Nat, n = (k : Int) := ⟨n.toNat, by have := (inR_iff.1 en).1; omega⟩
          have hk : Fok N (L ++ [⟨k, p⟩]) := by
            have := x.ok.der p (k : Int)
            rwa [e2] at this
          rw [Int.toNat_natCast] at *
          obtain ⟨av, cv, hv⟩ := x.form
          subst hv
          obtain ⟨v1, w3, v2, w4, hr1, hr2, ho, hB⟩ := x.snoc ⟨k, p⟩
          obtain ⟨a2, cc2, rfl, hx1, hx2⟩ := fown_form ho
          clear hx1 hx2
          dsimp only at hr2
          have HR : Hid (RfGo w r (.slice av L.length cv) (w4.setCell ⟨r, 1, none⟩ (.slice a2 (L ++ [(⟨k, p⟩ : Fe)]).length cc2)) N (L ++ [⟨k, p⟩])) := x.store hB ho hk rfl
          have c1 := (x.below ((Below.refl _ w).alloc (Nat.le_refl _) (.cells #[] 81))).c1
          have c4 := (x.below hB).c1
          have f4 := (x.below hB).fz 1
          clear x hhe hpe e1 e2 hm hm2 ep en hk ho hB
          generalize L.length = M at *
          generalize (L ++ [(⟨k, p⟩ : Fe)]).length = M2 at *
          go_enter Try.func27, Try.ntmps27
          go_wp2_with fail
          refine hip.mono ?_
          rintro e w1 ⟨rfl, rfl⟩
          go_wp2_with fail
          refine hin.mono ?_
          rintro e w1 ⟨rfl, rfl⟩
          go_wp2_with fail
          refine hhn.mono ?_
          rintro e w1 ⟨rfl, rfl⟩
          go_wp2_with fail
          refine hhp.mono ?_
          rintro e w1 ⟨rfl, rfl⟩
          go_wp2_with (at_builtin; first | refine wpList_append_run rfl _ _ _ rfl _ _ _ rfl rfl hr1 ?_ | refine wpList_append_run rfl _ _ _ rfl _ _ _ rfl rfl hr2 ?_)
          go_ret
          exact ⟨rfl, HR.out⟩
      · rw [hhe, hm] at hhn
        have e1 : derE N L p n = 121 := by unfold derE; rw [ep, en, hm]; rfl
        have e2 : derL N L p n = L := by simp [derL, e1]
        rw [e1, e2]
        have HX : Hid (RfGo w r rv w N L) := x.stay
        clear x e1 e2 hhe hpe hm
        go_enter Try.func27, Try.ntmps27
        go_wp2_with fail
        refine hip.mono ?_
        rintro e w1 ⟨rfl, rfl⟩
        go_wp2_with fail
        refine hin.mono ?_
        rintro e w1 ⟨rfl, rfl⟩
        go_wp2_with fail
        refine hhn.mono ?_
        rintro e w1 ⟨rfl, rfl⟩
        go_wp2_with fail
        go_ret
        exact ⟨rfl, HX.out⟩
end
end Go.Proofs.Ytlphombjejgbiaa
