/- What the calls of an agenda over one-cell elements do: Pop, Push, New, Drain. -/
import Derived.Test.YtcfmbppnghlkaaaFTell
namespace Go.Proofs.Ytcfmbppnghlkaaa
open Go.RowKit Go.Sort
set_option maxRecDepth 100000

set_option maxHeartbeats 1000000 in
theorem aPop_w (w : World) (p : Nat) (Q : VX → Int → Bool → World → Prop)
    (hc : Calls Try.prog 61 #[ptr p, .func (.func 62) #[] #[]] w fun v w2 => ∃ x n b, v = .returned (.tuple #[VV x, .int .i64 n, .bool b]) ∧ Q x n b w2) :
    Calls Try.prog 57 #[ptr p] w fun v w' => ∃ x n b, v = .returned (.tuple #[VV x, .int .i64 n, .bool b]) ∧ Q x n b w' := by
  go_enter Try.func57, Try.ntmps57
  go_wp2_with fail
  refine hc.mono ?_
  rintro v w2 ⟨x, n, b, rfl, hq⟩
  have HQ : Hid (Q x n b w2) := hq
  clear hc hq
  go_wp2_with fail
  exact bodyPost_ret (v := .tuple #[VV x, .int .i64 n, .bool b]) (by simp [results, Try.results57, go_sem]) rfl ⟨x, n, b, rfl, HQ.out⟩
section
variable {l : Le} {w : World} {p : Nat} {D : List En} {last : Nat} {Y : Nat → Prop}
theorem zV_x : ∃ x : VX, VV x = zV := by first | exact ⟨0, rfl⟩ | exact ⟨(none, 0, 0), rfl⟩
theorem pop0 (a : Ag l w p [] last Y) : Calls Try.prog 57 #[ptr p] w fun v w' => v = .returned tl0 ∧ w' = w := by
  obtain ⟨x, hx⟩ := zV_x
  refine (aPop_w w p (fun x' n b w2 => VV x' = zV ∧ n = 0 ∧ b = false ∧ w2 = w) ((tell0 a 62).mono fun v w2 h => ⟨x, 0, false, by rw [hx]; exact h.1, hx, rfl, rfl, h.2⟩)).mono ?_
  rintro v w' ⟨x', n, b, rfl, hx', rfl, rfl, rfl⟩
  rw [hx']
  exact ⟨rfl, rfl⟩
theorem popA (a : Ag l w p D last Y) (hD : D ≠ []) : Calls Try.prog 57 #[ptr p] w fun v w' => ∃ e, (e ∈ D ∧ (l.Ord → IsB D e)) ∧ v = .returned (tlV e) ∧ Ag l w' p (dropD D e.n) last Y ∧ But (Els Y) w w' := by
  have ok := a.1
  refine (aPop_w w p (fun x n b w2 => ∃ e : En, (e ∈ D ∧ (l.Ord → IsB D e)) ∧ (VV x = e.m ∧ n = e.n ∧ b = true) ∧ Ag l w2 p (dropD D e.n) last Y ∧ But (Els Y) w w2) ((tellT a hD).mono fun v w2 ⟨e, he, hv, ha, hb⟩ => ?_)).mono ?_
  · obtain ⟨x, hx⟩ := ok.sh _ _ (a.num he.1).2.2
    exact ⟨x, e.n, true, by rw [hv, ← hx], e, he, ⟨hx.symm, rfl, rfl⟩, ha, hb⟩
  · rintro v w' ⟨x, n, b, rfl, e, he, ⟨hx, rfl, rfl⟩, ha, hb⟩
    exact ⟨e, he, by rw [hx], ha, hb⟩
end
set_option maxHeartbeats 1000000 in
theorem pushA {l : Le} {w : World} {p : Nat} {D : List En} {last : Nat} {Y : Nat → Prop} (a : Ag l w p D last Y) (hl : last + 1 ≤ 1000000) (k : Int) (m : Value) (hk : l.P k m) :
    Calls Try.prog 47 #[ptr p, m] w fun v w' => v = .returned (.tuple #[.int .i64 ((last + 1 : Nat) : Int), .int .i64 0]) ∧ Ag l w' p (D ++ [⟨k, m, last + 1⟩]) (last + 1) Y ∧ But (Els Y) w w' := by
  obtain ⟨ok, o, A, x, rfl⟩ := a
  obtain ⟨vx, rfl⟩ := ok.sh k m hk
  have cI := ais l w p o A D _ x
  have h0 := x.pb.cell (i := 0) rfl
  have c1 := eenter l.g l.cs l.J l.X l.Ord o (x.pp ▸ ok) A k (VV vx) (x.pp ▸ hk) hl w x.rx x.j x.lv (fun b hb => (x.nx b hb).1)
  have HX : Hid (Ax l w p o A D Y) := x
  have HK : Hid l.Ok := ok
  clear x ok
  go_enter Try.func47, Try.ntmps47
  go_wp2_with fail
  refine cI.mono ?_
  rintro v w' ⟨rfl, hw'⟩
  subst hw'
  clear cI
  go_wp2_with fail
  refine c1.mono ?_
  rintro v w5 ⟨rfl, o5, A5, hg5, hi5⟩
  clear c1
  obtain ⟨x6, b6⟩ := HX.out.goes HK.out hg5 (D' := D ++ [⟨k, VV vx, A.last + 1⟩]) ⟨by rw [List.length_append, HX.out.dn.len, hi5.n]; rfl, fun y => by rw [List.mem_append, hi5.has, HX.out.dn.mem, List.mem_singleton], add_srt HX.out.dn.srt fun y hy => by have := HX.out.dn.num HX.out.rx.ok hy; simp only; omega⟩ (fun h => hi5.hp h (HX.out.hp h))
  have A6 : Hid (Ag l w5 p (D ++ [⟨k, VV vx, A.last + 1⟩]) (A.last + 1) Y) := ⟨HK.out, o5, A5, x6, hi5.last⟩
  have E6 : Hid (But (Els Y) w' w5) := b6
  clear x6 b6 hg5 hi5 HX
  go_wp2_with fail
  go_ret2
  exact ⟨rfl, A6.out, E6.out⟩

set_option maxHeartbeats 1000000 in
theorem enewrow (P : Int → Value → Prop) (g : Nat) (cs : Array Value) (w : World) :
    Calls Try.prog 53 #[.func (.func g) #[] cs] w fun v w' => ∃ o, v = .returned (ptr o.r) ∧ (o.lv = .func (.func g) #[] cs ∧ o.ev = .slice none 0 0 ∧ w.heap.size ≤ o.r ∧ w.heap.size ≤ o.bm ∧ o.P = P) ∧ Rx w' o ⟨fun _ => ⟨0, zV, 0⟩, 0, 0⟩ ∧ Below w.heap.size w w' := by
  have hm := @run_makeMap Try.prog
  have HB : Hid (Below w.heap.size w ((w.alloc (.map #[] 0)).alloc (.cells #[.func (.func g) #[] cs, .slice none 0 0, .map (some w.heap.size), .int .i64 0] 102))) := ((Below.refl _ w).alloc (Nat.le_refl _) _).alloc (by simp) _
  have HX : Hid (Rx ((w.alloc (.map #[] 0)).alloc (.cells #[.func (.func g) #[] cs, .slice none 0 0, .map (some w.heap.size), .int .i64 0] 102)) ⟨P, w.heap.size + 1, w.heap.size, .func (.func g) #[] cs, .slice none 0 0, fun _ => 0, []⟩ ⟨fun _ => ⟨0, zV, 0⟩, 0, 0⟩) := by
    refine ⟨?_, World.ownsRow_nil _ _ _ _, fun i hi => absurd hi (Nat.not_lt_zero _), ?_, fun z => ⟨fun h => absurd h (by simp), fun ⟨i, hi, _⟩ => absurd hi (Nat.not_lt_zero _)⟩, by simp, ⟨fun i _ hi => absurd hi (Nat.not_lt_zero _), fun i hi => absurd hi (Nat.not_lt_zero _), Nat.le_refl _, fun i hi => absurd hi (Nat.not_lt_zero _), by show 0 ≤ _; omega⟩⟩
    · have h := blk_new (w.alloc (.map #[] 0)) [.func (.func g) #[] cs, .slice none 0 0, .map (some w.heap.size), .int .i64 0] 102
      rw [World.size_alloc] at h
      exact h
    · exact (mq_new w _).same (Below.heap_alloc _ _ _ (by simp))
  go_enter Try.func53, Try.ntmps53
  go_wp2_with fail
  go_ret
  exact ⟨_, rfl, ⟨rfl, rfl, Nat.le_succ _, Nat.le_refl _, rfl⟩, HX.out, HB.out⟩

set_option maxHeartbeats 1000000 in
theorem nilF (g : Nat) (cs : Array Value) (W : World) : (binOp .eql 84 (.func (.func g) #[] cs) .nilFunc).run Try.prog W = .ok (.bool false) W := by kernel_rfl
set_option maxHeartbeats 1000000 in
theorem newA (l : Le) (w : World) (ok : l.Ok) (hJ : l.J w) :
    Calls Try.prog 45 #[.func (.func l.g) #[] l.cs] w fun v w' => ∃ p, v = .returned (ptr p) ∧ Ag l w' p [] 0 (fun b => b < w.heap.size ∧ ¬ l.X b) ∧ w.heap.size ≤ p ∧ Below w.heap.size w w' := by
  have cR := enewrow l.P l.g l.cs w
  have HK : Hid l.Ok := ok
  have HJ : Hid (l.J w) := hJ
  have hnf := fun W => nilF l.g l.cs W
  clear ok hJ
  go_enter Try.func45, Try.ntmps45
  go_wp2_with fail
  refine cR.mono ?_
  rintro v w1 ⟨o, rfl, ⟨h1, h2, h3, h4, h5⟩, x1, b1⟩
  clear cR
  have HX : Hid (Rx w1 o ⟨fun _ => ⟨0, zV, 0⟩, 0, 0⟩) := x1
  have HB : Hid (Below w.heap.size w w1) := b1
  clear x1 b1
  go_wp2_with fail
  go_ret
  have hb2 : Below w1.heap.size w1 (w1.alloc (.cells #[ptr o.r] 94)) := (Below.refl _ w1).alloc (Nat.le_refl _) _
  have hb3 : Below w.heap.size w (w1.alloc (.cells #[ptr o.r] 94)) := HB.out.trans (hb2.mono HB.out.size)
  have hsz := HB.out.size
  have hh : ∀ b, o.has ⟨fun _ => ⟨0, zV, 0⟩, 0, 0⟩ b → w.heap.size ≤ b := by
    rintro b (h | h | h | ⟨i, hi, _⟩)
    · omega
    · omega
    · rw [h2] at h; cases h
    · exact absurd hi (Nat.not_lt_zero _)
  refine ⟨w1.heap.size, rfl, ⟨HK.out, o, ⟨fun _ => ⟨0, zV, 0⟩, 0, 0⟩, ⟨blk_new w1 [ptr o.r] _, HX.out.below hb2, h1, h5, HK.out.st _ _ HJ.out (But.of hb3), fun b hb => ?_, fun b hb => ?_, fun h => Nat.lt_irrefl _ (HX.out.lt h), ⟨rfl, fun y => ⟨fun h => absurd h (by simp), fun ⟨i, hi, _⟩ => absurd hi (Nat.not_lt_zero _)⟩, List.Pairwise.nil⟩, fun _ c _ hc => absurd hc (Nat.not_lt_zero _)⟩, rfl⟩, hsz, hb3⟩
  · have := HK.out.lt _ _ HJ.out hb
    exact ⟨fun h => by have := hh b h; omega, by omega⟩
  · exact ⟨by have := hb3.size; omega, fun h => by have := hh b h; omega, by omega, hb.2⟩

abbrev sqV (N2 : Nat) : Value := .func (.func 60) #[] #[ptr N2]
abbrev bx1 (w : World) (v : Value) (T : TypeId) : World := w.alloc (.cells #[v] T)
set_option maxHeartbeats 1000000 in
theorem eeach0 (a : Value) (g : Nat) (w : World) (ha : a = .func (.func 57) #[ptr g] #[]) : Calls Try.prog 56 #[a] w fun e w' => e = .returned (sqV w.heap.size) ∧ w' = bx1 w a 97 := by
  subst ha
  go_enter Try.func56, Try.ntmps56
  go_wp2_with fail
  go_ret
  exact ⟨rfl, rfl⟩
set_option maxHeartbeats 1000000 in
theorem eDrain (p : Nat) (w : World) : Calls Try.prog 48 #[ptr p] w fun e w' => e = .returned (sqV w.heap.size) ∧ w' = bx1 w (.func (.func 57) #[ptr p] #[]) 97 := by
  have c := eeach0 _ p w rfl
  go_enter Try.func48, Try.ntmps48
  go_wp2_with fail
  refine c.mono ?_
  rintro e w' ⟨rfl, rfl⟩
  go_wp2_with fail
  go_ret
  exact ⟨rfl, rfl⟩
theorem feach : ∀ args W, (callFunc 60 args).run Try.prog W = .ok (.enter 60 args) W := enters_of Try.func60 (by kernel_rfl) rfl
end Go.Proofs.Ytcfmbppnghlkaaa
