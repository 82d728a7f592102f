/- Live. -/
import Derived.Test.YtimmjhegeagofacVRow
namespace Go.Proofs.Ytimmjhegeagofac
open Go.RowKit Go.Sort
set_option maxRecDepth 100000

set_option maxHeartbeats 8000000 in
theorem tlive_any (p : Nat) (T : Tb) (w : World) (hx : Tx w p T) :
    Calls Try.prog 12 #[tbV p] w fun e w' => ∃ v, e = .returned v ∧ Hs w' w.heap.size v (lvTo T T.n) ∧ Below w.heap.size w w' := by
  have hR := fun W (hW : Tx W p T) => trow_any p T W hW
  have hn := hx.ok.n32
  have H : Hid (Tx w p T) := hx
  clear hx
  go_enter Try.func12, Try.ntmps12
  go_wp2_with fail
  refine (hR _ H.out).mono ?_
  rintro e w1 ⟨rfl, hb1⟩
  have B1 : Hid (Below w.heap.size w w1) := hb1
  clear hb1 hR
  go_wp2_with fail
  go_loopw [3, 9] (fun v t wr => ∃ (u : Value) (k : Nat), u = v ∧ k ≤ T.n ∧ t = .int .i64 k ∧ Hid (Hs wr w.heap.size u (lvTo T k)) ∧ Hid (Below w.heap.size w wr)) (fun _ t _ => T.n - (intOf t).toNat)
  case atStart => exact ⟨_, 0, rfl, Nat.zero_le _, rfl, hs_nil _ _, B1.out⟩
  case round =>
    obtain ⟨v, k, e3, hk, rfl, hS, hbel⟩ := hrel
    subst e3
    by_cases hlt : k < T.n
    · have hx := H.out.below hbel.out
      have q0 := hx.pc k (by omega)
      have q1 := hx.pr k (by omega)
      have q2 := hx.pg k (by omega)
      have ql := hx.lt
      have hc := fun W => taken_any (T.at_ k) W
      have hh := fun W (hW : Tx W p T) => handle_any p k T W hW (by omega)
      have hll := lvTo_le T k
      clear hx
      have hb2 := below_new wr (.cells #[.int .i64 (T.at_ k).c, .int .u8 (T.at_ k).r, .int .i64 (T.at_ k).g] 48)
      have S2 : Hid (Hs (wr.alloc (.cells #[.int .i64 (T.at_ k).c, .int .u8 (T.at_ k).r, .int .i64 (T.at_ k).g] 48)) w.heap.size v (lvTo T k)) := vown_below hS.out hb2
      have B2 : Hid (Below w.heap.size w (wr.alloc (.cells #[.int .i64 (T.at_ k).c, .int .u8 (T.at_ k).r, .int .i64 (T.at_ k).g] 48))) := Below.onto hbel.out hb2
      clear hb2
      cases hq : takP (T.at_ k)
      · rw [hq] at hc
        have HQ : Hid (lvTo T (k + 1) = lvTo T k) := by show _ = _; simp [lvTo, hq]
        clear hq
        go_wp2_with fail
        generalize wr.alloc (.cells #[.int .i64 (T.at_ k).c, .int .u8 (T.at_ k).r, .int .i64 (T.at_ k).g] 48) = w2 at *
        refine (hc _).mono ?_
        rintro e w3 ⟨rfl, hb3⟩
        have S3 : Hid (Hs w3 w.heap.size v (lvTo T k)) := vown_below S2.out hb3
        have B3 : Hid (Below w.heap.size w w3) := Below.onto B2.out hb3
        clear hb3 q0 q1 q2 ql hc hh
        go_wp2_with fail
        exact ⟨⟨_, k + 1, rfl, by omega, by go_num, by rw [HQ.out]; exact S3.out, B3.out⟩, by simp [intOf]; omega⟩
      · rw [hq] at hc
        have HQ : Hid (lvTo T (k + 1) = lvTo T k ++ [hdl T k]) := by show _ = _; simp [lvTo, hq]
        clear hq
        go_wp2_with fail
        generalize wr.alloc (.cells #[.int .i64 (T.at_ k).c, .int .u8 (T.at_ k).r, .int .i64 (T.at_ k).g] 48) = w2 at *
        refine (hc _).mono ?_
        rintro e w3 ⟨rfl, hb3⟩
        have S3 : Hid (Hs w3 w.heap.size v (lvTo T k)) := vown_below S2.out hb3
        have B3 : Hid (Below w.heap.size w w3) := Below.onto B2.out hb3
        clear hb3 q0 q1 q2 ql hc
        go_wp2_with fail
        refine (hh _ (H.out.below B3.out)).mono ?_
        rintro e w4 ⟨rfl, hb4⟩
        have S4 := vown_below S3.out hb4
        have B4 : Hid (Below w.heap.size w w4) := Below.onto B3.out hb4
        clear hb4 hh
        obtain ⟨a9, c9, w9, hrun, ho9, hb9, hl9⟩ := hs_app (hdl T k) S4 (by omega) B4.out.size
        have S9 : Hid (Hs w9 w.heap.size (.slice a9 ((lvTo T k).length + 1) c9) (lvTo T (k + 1))) := by show Hs _ _ _ _; rw [HQ.out]; exact ho9
        have B9 : Hid (Below w.heap.size w w9) := B4.out.trans (hb9.below B4.out.size fun g hg => vown_base S4 hg)
        clear hb9 hl9 ho9 S4
        obtain ⟨ta, tc, hv⟩ := vown_form hS.out
        subst hv
        go_wp2_with (at_builtin; refine wpList_append_run rfl (.tmp 16) (.tmp 20) 28 rfl _ _ _ rfl rfl hrun ?_)
        exact ⟨⟨_, k + 1, rfl, by omega, by go_num, S9.out, B9.out⟩, by simp [intOf]; omega⟩
    · obtain rfl : k = T.n := by omega
      go_wp2_with fail
      refine bodyPost_ret (v := v) (by simp [results, Try.results12, go_sem]) rfl ⟨v, rfl, hS.out, hbel.out⟩
end Go.Proofs.Ytimmjhegeagofac
