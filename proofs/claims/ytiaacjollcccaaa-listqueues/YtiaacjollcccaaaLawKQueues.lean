/- PROVED: for every row of bools the statement ListQueues returns true: a list into which nodes are pushed, and out of which they are popped, is a queue (P5.6). No condition. -/
import Derived.Test.YtiaacjollcccaaaRows
import Derived.Test.YtiaacjollcccaaaKAlive
import Derived.Test.YtiaacjollcccaaaKRow
import Derived.ProofKit
import Derived.ShutString
import Derived.ChangeOld
import Derived.OpenShut
namespace Go.Proofs.Ytiaacjollcccaaa.listQueues
open Go.ChangeShapes Go.WideShapes Go.ChangeAt Go.RowKit

theorem own : ownKnob Try.prog.godebug = none := by kernel_rfl
theorem laidOut : laidOutB Try.prog = true := by kernel_rfl

/-- the queue of b - a nodes, from a on -/
def Q (a b : Nat) : List Nat := List.range' a (b - a)
theorem q_pop {a b : Nat} (h : a < b) : Q a b = a :: Q (a + 1) b := by
  unfold Q
  rw [show b - a = (b - (a + 1)) + 1 by omega, List.range'_succ]
theorem q_push {a b : Nat} (h : a ≤ b) : Q a b ++ [b] = Q a (b + 1) := by
  unfold Q
  rw [show b + 1 - a = (b - a) + 1 by omega, List.range'_concat]
  simp; omega
theorem q_nil (a : Nat) : Q a a = [] := by simp [Q]
theorem q_len (a b : Nat) : (Q a b).length = b - a := by simp [Q]
theorem q_mem {a b x : Nat} (h : x ∈ Q a b) : x < b := by
  simp [Q, List.mem_range'_1] at h; omega
theorem in0 : inR 1 0 = true := by decide
theorem popB_yes {R : Nat → List Nat} {a b : Nat} (h : R 0 = Q a b) (hab : a < b) : popB 1 R 0 = true ∧ popI 1 R 0 = (a : Int) ∧ popR 1 R 0 0 = Q (a + 1) b := by
  have e : R 0 = a :: Q (a + 1) b := h.trans (q_pop hab)
  have h1 : popB 1 R 0 = true := by simp [popB, in0, e]
  refine ⟨h1, ?_, ?_⟩
  · unfold popI; rw [if_pos h1]; simp [e]
  · unfold popR; rw [if_pos h1]; simp [upd, e]
theorem popB_no {R : Nat → List Nat} {a : Nat} (h : R 0 = Q a a) : popB 1 R 0 = false ∧ popI 1 R 0 = 0 ∧ popR 1 R 0 = R := by
  rw [q_nil] at h
  have h1 : popB 1 R 0 = false := by simp [popB, h]
  refine ⟨h1, ?_, ?_⟩
  · unfold popI; rw [h1]; rfl
  · unfold popR; rw [h1]; rfl
theorem push_yes {R : Nat → List Nat} {a b : Nat} (h : R 0 = Q a b) (hab : a ≤ b) (hb : b < 40) : pushE 40 1 R 0 b = 0 ∧ pushR 40 1 R false 0 b 0 = Q a (b + 1) := by
  have hin : inR 40 (b : Int) = true := inR_iff.2 (by omega)
  have hw : whr R 1 b = none := whr_none_of (fun k hk hm => by
    obtain rfl : k = 0 := by omega
    rw [h] at hm
    exact absurd (q_mem hm) (by omega))
  have h1 : pushE 40 1 R 0 b = 0 := by simp [pushE, in0, hin, hw]
  refine ⟨h1, ?_⟩
  unfold pushR
  rw [if_pos h1]
  simp [upd, h, q_push hab]
theorem len_is {R : Nat → List Nat} {a b : Nat} (h : R 0 = Q a b) (hab : a ≤ b) : lenR 1 R 0 = (b : Int) - (a : Int) := by
  simp [lenR, in0, h, q_len]; omega

set_option maxRecDepth 100000 in
set_option maxHeartbeats 4000000 in
theorem walk (a : Option Addr) (len cap : Nat) (B : Nat → Bool) (w0 : World) (hB : BRow w0 a len cap B) :
    Calls Try.prog 6 #[.slice a len cap] w0 fun e w' => e = .returned (.bool true) ∧ Below w0.heap.size w0 w' := by
  have HB : Hid (BRow w0 a len cap B) := hB
  have hlen : len ≤ 9223372036854775807 := by have h1 := hB.2.1; have h2 := hB.2.2; unfold maxLen at h2; omega
  have hnew := new_k 40 1 w0 (by omega) (by omega)
  clear hB
  go_enter Try.func6, Try.ntmps6
  go_wp2_with fail
  refine hnew.mono ?_
  rintro e w1 ⟨o, rfl, hk1, hb1, ho⟩
  have HO : Hid (∀ b, o.has b → w0.heap.size ≤ b) := ho
  have HK1 : Hid (Kv w1 o 40 1 fun _ => []) := hk1
  clear ho hk1 hnew
  go_wp2_with fail
  go_loopw [5, 6, 7] (fun vin vout vi wr => ∃ p q i : Nat, p ≤ q ∧ q ≤ 40 ∧ i ≤ 80 ∧ i ≤ len ∧ vin = .int .i64 q ∧ vout = .int .i64 p ∧ vi = .int .i64 i ∧ Below w0.heap.size w0 wr ∧ Hid (∃ R, Kv wr o 40 1 R ∧ R 0 = Q p q)) (fun _ _ vi _ => 80 - (intOf vi).toNat)
  case atStart => exact ⟨0, 0, 0, by omega, by omega, by omega, by omega, rfl, rfl, rfl, hb1, _, HK1.out, (q_nil 0).symm⟩
  case round =>
    obtain ⟨p, q, i, hpq, hq, hi8, hil, rfl, rfl, rfl, hbel, HR⟩ := hrel
    by_cases hgo : i < len ∧ i < 80
    · obtain ⟨hg1, hg2⟩ := hgo
      obtain ⟨b, off, rfl, hcell⟩ := (HB.out.below hbel).1 i hg1
      obtain ⟨R, hkR, hR0⟩ := HR.out
      cases hBi : B i
      · rw [hBi] at hcell
        by_cases hq4 : q < 40
        · obtain ⟨e1, e2⟩ := push_yes hR0 hpq hq4
          have hcall := push_k o 40 1 R 0 (q : Int) wr hkR
          rw [e1] at hcall
          have HE : Hid (pushR 40 1 R false 0 q 0 = Q p (q + 1)) := e2
          clear hkR hR0 e1 e2 hBi HR
          go_wp2_with fail
          refine hcall.mono ?_
          rintro e w2 ⟨rfl, hk2, hb2⟩
          have HK2 : Hid (∃ R, Kv w2 o 40 1 R ∧ R 0 = Q p (q + 1)) := ⟨_, hk2, HE.out⟩
          have B2 := hbel.trans (hb2.below hbel.size HO.out)
          clear hk2 hcall
          go_wp2_with fail
          go_roundw
          case rel => exact ⟨p, q + 1, i + 1, by omega, by omega, by omega, by omega, by go_num, rfl, by go_num, B2, HK2.out⟩
          case measure => simp [intOf]; omega
        · obtain rfl : q = 40 := by omega
          clear hkR hR0 hBi
          go_wp2_with fail
          go_roundw
          case rel => exact ⟨p, 40, i + 1, by omega, by omega, by omega, by omega, rfl, rfl, by go_num, hbel, HR.out⟩
          case measure => simp [intOf]; omega
      · rw [hBi] at hcell
        by_cases hlt : p < q
        · obtain ⟨e1, e2, e3⟩ := popB_yes hR0 hlt
          have hcall := pop_k o 40 1 R 0 wr hkR
          rw [e1, e2] at hcall
          have HE : Hid (popR 1 R 0 0 = Q (p + 1) q) := e3
          have hdc : decide ((p : Int) < (q : Int)) = true := by simp; omega
          clear hkR hR0 e1 e2 e3 hBi HR
          go_wp2_with fail
          refine hcall.mono ?_
          rintro e w2 ⟨rfl, hk2, hb2⟩
          have HK2 : Hid (∃ R, Kv w2 o 40 1 R ∧ R 0 = Q (p + 1) q) := ⟨_, hk2, HE.out⟩
          have B2 := hbel.trans (hb2.below hbel.size HO.out)
          clear hk2 hcall
          go_wp2_with fail
          go_roundw
          case rel => exact ⟨p + 1, q, i + 1, by omega, by omega, by omega, by omega, rfl, by go_num, by go_num, B2, HK2.out⟩
          case measure => simp [intOf]; omega
        · obtain rfl : p = q := by omega
          obtain ⟨e1, e2, e3⟩ := popB_no hR0
          have hcall := pop_k o 40 1 R 0 wr hkR
          rw [e1, e2, e3] at hcall
          have HE : Hid (R 0 = Q p p) := hR0
          clear hkR hR0 e1 e2 e3 hBi HR
          go_wp2_with fail
          refine hcall.mono ?_
          rintro e w2 ⟨rfl, hk2, hb2⟩
          have HK2 : Hid (∃ R, Kv w2 o 40 1 R ∧ R 0 = Q p p) := ⟨_, hk2, HE.out⟩
          have B2 := hbel.trans (hb2.below hbel.size HO.out)
          clear hk2 hcall
          go_wp2_with fail
          go_roundw
          case rel => exact ⟨p, p, i + 1, by omega, by omega, by omega, by omega, rfl, rfl, by go_num, B2, HK2.out⟩
          case measure => simp [intOf]; omega
    · obtain ⟨R, hkR, hR0⟩ := HR.out
      have hcall := klen_k o 40 1 R 0 wr hkR
      rw [len_is hR0 hpq] at hcall
      have HD : Hid (i = len ∨ (i < len ∧ i = 80)) := by show i = len ∨ (i < len ∧ i = 80); omega
      clear hkR hR0 HR hgo
      rcases HD.out with rfl | ⟨hx, rfl⟩
      · clear HD
        go_wp2_with fail
        refine hcall.mono ?_
        rintro e w2 ⟨rfl, e1⟩
        subst e1
        go_wp2_with fail
        refine (alive_k _).mono ?_
        rintro e w3 ⟨rfl, hb3⟩
        go_wp2_with fail
        go_ret
        exact ⟨rfl, Below.onto hbel hb3⟩
      · clear HD
        go_wp2_with fail
        refine hcall.mono ?_
        rintro e w2 ⟨rfl, e1⟩
        subst e1
        go_wp2_with fail
        refine (alive_k _).mono ?_
        rintro e w3 ⟨rfl, hb3⟩
        go_wp2_with fail
        go_ret
        exact ⟨rfl, Below.onto hbel hb3⟩

set_option maxRecDepth 100000 in
theorem lifted (os : Os) (started : os.Started) (H : Type) (enc : TypeId × Value → H) :
    ReturnsInHanded {} Try.checked os 6 .any (Rows.listQueuesSpec.pre6 enc Try.prog Try.f6 Rows.listQueuesRow.domain false) (Rows.listQueuesSpec.post enc Try.prog Try.f6 false true false false) := by
  refine returnsInHanded_of_change (C := Try.checked) own started (by kernel_rfl) Try.func6
    (ChangeSpec.witness6 (enc := enc) (C := Try.checked) false ⟨#[], #[.slice none 0 0], []⟩ 8 (by kernel_rfl) (by kernel_rfl) (by kernel_rfl) (by kernel_rfl)) ?_
  intro W base args ds gs before hval0 hW hcnd _
  have hval : ∀ (j : Nat) t v, Try.f6.params[j]? = some t → args[j]? = some v → Value.okWide Try.prog W .any base t v := hval0
  have hW' := hW
  obtain ⟨p, q, hA0, hV, rfl, hfz, hnd⟩ := hW
  have hA : DataW.TrodAll enc Try.prog W 0 (fun _ => true) true Try.f6.params.toList args.toList ds p := hA0
  rw [Try.params6] at hA hval
  obtain ⟨v0, vs0, d0, ds0, p0, q0, hargs, rfl, rfl, h0, r0⟩ := trodAll_cons hA
  obtain ⟨rfl, rfl, rfl⟩ := trodAll_nil r0
  obtain rfl : args = #[v0] := by cases args; simp_all
  obtain ⟨rfl, rfl⟩ := trodVars_none hV
  have k0 := h0
  have lt0 : ∀ x ∈ p0, x.block < W.heap.size := by obtain ⟨m, hm⟩ := k0; exact DataW.trod_lt m _ _ _ hm
  obtain ⟨a, len, cap, B, rfl, w0⟩ := open_boolrow (hval 0 49 v0 rfl rfl) h0
  clear hA0 hval0
  refine (walk a len cap B W w0).mono fun e W' ⟨he, bel⟩ => ?_
  subst he
  exact ⟨_, rfl, _, _, _, [], _, [], hW', trodAll_mk1 (shut_bool Try.underlying4 _), (trodAll_cons_mk (Below.trod laidOut (by kernel_rfl) (of_decide_eq_true (by kernel_rfl)) k0 bel lt0) trodAll_mk0), rfl, bel.frame _, fun h => by cases h⟩

end Go.Proofs.Ytiaacjollcccaaa.listQueues
namespace Go.Proofs.Ytiaacjollcccaaa

/-- The statement ListQueues. -/
theorem ListQueuesHolds : Rows.ListQueuesSaid :=
  OpenClaim.holds_of_wide 6 Try.f6 rfl rfl rfl rfl rfl rfl rfl ⟨rfl, rfl, rfl, rfl, rfl⟩ rfl rfl rfl rfl rfl (by kernel_rfl) Try.func6 (by kernel_rfl)
    (of_decide_eq_true (by kernel_rfl)) (by unfold Func.isWrapper; first | (rw [if_pos (by decide +kernel)]; kernel_rfl) | (rw [if_neg (by decide +kernel)]; exact ⟨rfl, rfl⟩))
    (fun os started H enc _ => listQueues.lifted os started H enc)

end Go.Proofs.Ytiaacjollcccaaa
