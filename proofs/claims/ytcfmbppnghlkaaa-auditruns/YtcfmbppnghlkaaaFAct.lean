/- What the calls of an agenda over one-cell elements do: Pop, Push, New, Drain. -/
import Derived.Test.YtcfmbppnghlkaaaFAg
import Derived.Shelf.Abstract
namespace Go.Proofs.Ytcfmbppnghlkaaa
open Go.RowKit Go.Sort Go.Shelf
set_option maxRecDepth 100000

abbrev tlV (e : En) : Value := .tuple #[e.m, .int .i64 (e.n : Int), .bool true]
abbrev tl0 : Value := .tuple #[zV, .int .i64 0, .bool false]
set_option maxHeartbeats 1000000 in
theorem atell (gf : Nat) (en : ∀ args W, (callFunc gf args).run Try.prog W = .ok (.enter gf args) W) (w : World) (p r n be : Nat) (e : En) (vx : VX) (hv : e.m = VV vx) (Q : World → Prop) (h0 : w.cell? ⟨p, 0, none⟩ = some (ptr r)) (hn : n ≠ 0)
    (cN : Calls Try.prog 64 #[ptr p] w fun e w' => e = .returned (.int .i64 (n : Int)) ∧ w' = w)
    (hc : Calls Try.prog gf #[ptr r] w fun v w2 => v = .returned (ptr be) ∧ Q w2) (hQ : ∀ w2, Q w2 → ∃ q, Blk w2 be 105 (enC e q)) :
    Calls Try.prog 61 #[ptr p, .func (.func gf) #[] #[]] w fun v w' => v = .returned (tlV e) ∧ ∃ w2, Q w2 ∧ w' = w2.drew := by
  go_enter Try.func61, Try.ntmps61
  go_wp2_with fail
  refine cN.mono ?_
  rintro v w' ⟨rfl, hw'⟩
  subst hw'
  clear cN
  go_wp2_with fail
  refine hc.mono ?_
  rintro v w2 ⟨rfl, hq⟩
  clear hc
  obtain ⟨q, hb⟩ := hQ w2 hq
  obtain ⟨k, m, n'⟩ := e
  simp only at hv
  subst hv
  have a0 := hb.cell (i := 0) rfl
  have a1 := hb.cell (i := 1) rfl
  have HQ : Hid (Q w2) := hq
  clear hb hq hQ
  go_wp2_with fail
  go_region
  go_wp2_with fail
  exact bodyPost_ret (v := .tuple #[VV vx, .int .i64 (n' : Int), .bool true]) (by simp [results, Try.results61, go_sem]) rfl ⟨rfl, w2, HQ.out, rfl⟩
set_option maxHeartbeats 1000000 in
theorem atell_0 (gf : Nat) (w : World) (p : Nat) (cN : Calls Try.prog 64 #[ptr p] w fun e w' => e = .returned (.int .i64 0) ∧ w' = w) :
    Calls Try.prog 61 #[ptr p, .func (.func gf) #[] #[]] w fun v w' => v = .returned tl0 ∧ w' = w := by
  go_enter Try.func61, Try.ntmps61
  go_wp2_with fail
  refine cN.mono ?_
  rintro v w' ⟨rfl, hw'⟩
  subst hw'
  clear cN
  go_wp2_with fail
  exact bodyPost_ret (v := tl0) (by simp [results, Try.results61, go_sem]) rfl ⟨rfl, rfl⟩

section
variable {l : Le} {w : World} {p : Nat} {D : List En} {last : Nat} {Y : Nat → Prop}
theorem ftake : ∀ args W, (callFunc 62 args).run Try.prog W = .ok (.enter 62 args) W := enters_of Try.func62 (by kernel_rfl) rfl
theorem Ax.isB {o : Ro} {A : Ar} (x : Ax l w p o A D Y) (h0 : 0 < A.n) : A.f 0 ∈ D ∧ (l.Ord → IsB D (A.f 0)) := by
  have h := (x.dn.mem (A.f 0)).2 ⟨0, h0, rfl⟩
  refine ⟨h, fun ho => ⟨h, fun y hy => ?_⟩⟩
  obtain ⟨i, hi, rfl⟩ := (x.dn.mem y).1 hy
  exact (x.hp ho).first i hi
theorem tell0 (a : Ag l w p [] last Y) (gf : Nat) : Calls Try.prog 61 #[ptr p, .func (.func gf) #[] #[]] w fun v w' => v = .returned tl0 ∧ w' = w := by
  obtain ⟨ok, o, A, x, rfl⟩ := a
  refine atell_0 gf w p ?_
  have h := alen l _ p o A [] _ x
  have hn : A.n = 0 := x.dn.len.symm
  rw [hn] at h
  exact h
theorem Out.dn {A A' : Ar} {e : En} {Ord : Prop} (h : Out Ord A A' e) (d : Dn D A) (he : e ∈ D) : Dn (dropD D e.n) A' := by
  refine ⟨?_, fun y => ?_, drop_srt d.srt _⟩
  · have := drop_len d.srt he
    have := d.len
    have := h.n
    omega
  · rw [mem_drop, h.has, d.mem]
    constructor
    · rintro ⟨h1, h2⟩; exact ⟨h1, by rintro rfl; exact h2 rfl⟩
    · rintro ⟨h1, h2⟩; exact ⟨h1, fun h3 => h2 (srt_uniq d.srt ((d.mem y).2 h1) he h3)⟩
theorem tellT (a : Ag l w p D last Y) (hD : D ≠ []) : Calls Try.prog 61 #[ptr p, .func (.func 62) #[] #[]] w fun v w' => ∃ e, (e ∈ D ∧ (l.Ord → IsB D e)) ∧ v = .returned (tlV e) ∧ Ag l w' p (dropD D e.n) last Y ∧ But (Els Y) w w' := by
  obtain ⟨ok, o, A, x, rfl⟩ := a
  have h0 : 0 < A.n := by rw [← x.dn.len]; exact List.length_pos_iff.2 hD
  obtain ⟨vx, hvx⟩ := ok.sh _ _ (x.pp ▸ x.dn.num x.rx.ok (x.isB h0).1).2.2
  refine (atell 62 ftake w p o.r A.n (o.bl (A.f 0).n) (A.f 0) vx hvx (fun w2 => ∃ o' A', Gs l.J l.X w o A w2 o' A' ∧ Out l.Ord A A' (A.f 0) ∧ ∃ q, Blk w2 (o.bl (A.f 0).n) 105 (enC (A.f 0) q)) (x.pb.cell (i := 0) rfl) (by omega) (alen l _ p o A D _ x) (etake l.g l.cs l.J l.X l.Ord o (x.pp ▸ ok) A h0 _ x.rx x.j x.lv (fun b hb => (x.nx b hb).1)) ?_).mono ?_
  · rintro w2 ⟨o', A', hg, ho, hq⟩
    exact hq
  · rintro v w' ⟨rfl, w2, ⟨o', A', hg, ho, hq⟩, rfl⟩
    obtain ⟨x2, b2⟩ := x.goes ok hg (ho.dn x.dn (x.isB h0).1) (fun h => ho.hp h (x.hp h))
    have a2 : Ag l w2 p (dropD D (A.f 0).n) A.last Y := ⟨ok, o', A', x2, ho.last⟩
    exact ⟨A.f 0, x.isB h0, rfl, a2.below (Below.refl _ w2).drew, b2.drew⟩
end
end Go.Proofs.Ytcfmbppnghlkaaa
namespace Go.Proofs.Ytcfmbppnghlkaaa
open Go.RowKit Go.Sort
set_option maxRecDepth 100000

set_option maxHeartbeats 1000000 in
theorem aPop_w (w : World) (p : Nat) (Q : VX → Int → Bool → World → Prop)
    (hc : Calls Try.prog 61 #[ptr p, .func (.func 62) #[] #[]] w fun v w2 => ∃ x n b, v = .returned (.tuple #[VV x, .int .i64 n, .bool b]) ∧ Q x n b w2) :
    Calls Try.prog 57 #[ptr p] w fun v w' => ∃ x n b, v = .returned (.tuple #[VV x, .int .i64 n, .bool b]) ∧ Q x n b w' := by
  go_enter Try.func57, Try.ntmps57
  go_wp2_with fail
  refine hc.mono ?_
  rintro v w2 ⟨x, n, b, rfl, hq⟩
  have HQ : Hid (Q x n b w2) := hq
  clear hc hq
  go_wp2_with fail
  exact bodyPost_ret (v := .tuple #[VV x, .int .i64 n, .bool b]) (by simp [results, Try.results57, go_sem]) rfl ⟨x, n, b, rfl, HQ.out⟩
section
variable {l : Le} {w : World} {p : Nat} {D : List En} {last : Nat} {Y : Nat → Prop}
theorem zV_x : ∃ x : VX, VV x = zV := by first | exact ⟨0, rfl⟩ | exact ⟨(none, 0, 0), rfl⟩
theorem pop0 (a : Ag l w p [] last Y) : Calls Try.prog 57 #[ptr p] w fun v w' => v = .returned tl0 ∧ w' = w := by
  obtain ⟨x, hx⟩ := zV_x
  refine (aPop_w w p (fun x' n b w2 => VV x' = zV ∧ n = 0 ∧ b = false ∧ w2 = w) ((tell0 a 62).mono fun v w2 h => ⟨x, 0, false, by rw [hx]; exact h.1, hx, rfl, rfl, h.2⟩)).mono ?_
  rintro v w' ⟨x', n, b, rfl, hx', rfl, rfl, rfl⟩
  rw [hx']
  exact ⟨rfl, rfl⟩
theorem popA (a : Ag l w p D last Y) (hD : D ≠ []) : Calls Try.prog 57 #[ptr p] w fun v w' => ∃ e, (e ∈ D ∧ (l.Ord → IsB D e)) ∧ v = .returned (tlV e) ∧ Ag l w' p (dropD D e.n) last Y ∧ But (Els Y) w w' := by
  have ok := a.1
  refine (aPop_w w p (fun x n b w2 => ∃ e : En, (e ∈ D ∧ (l.Ord → IsB D e)) ∧ (VV x = e.m ∧ n = e.n ∧ b = true) ∧ Ag l w2 p (dropD D e.n) last Y ∧ But (Els Y) w w2) ((tellT a hD).mono fun v w2 ⟨e, he, hv, ha, hb⟩ => ?_)).mono ?_
  · obtain ⟨x, hx⟩ := ok.sh _ _ (a.num he.1).2.2
    exact ⟨x, e.n, true, by rw [hv, ← hx], e, he, ⟨hx.symm, rfl, rfl⟩, ha, hb⟩
  · rintro v w' ⟨x, n, b, rfl, e, he, ⟨hx, rfl, rfl⟩, ha, hb⟩
    exact ⟨e, he, by rw [hx], ha, hb⟩
end
set_option maxHeartbeats 1000000 in
theorem pushA {l : Le} {w : World} {p : Nat} {D : List En} {last : Nat} {Y : Nat → Prop} (a : Ag l w p D last Y) (hl : last + 1 ≤ 1000000) (k : Int) (m : Value) (hk : l.P k m) :
    Calls Try.prog 47 #[ptr p, m] w fun v w' => v = .returned (.tuple #[.int .i64 ((last + 1 : Nat) : Int), .int .i64 0]) ∧ Ag l w' p (D ++ [⟨k, m, last + 1⟩]) (last + 1) Y ∧ But (Els Y) w w' := by
  obtain ⟨ok, o, A, x, rfl⟩ := a
  obtain ⟨vx, rfl⟩ := ok.sh k m hk
  have cI := ais l w p o A D _ x
  have h0 := x.pb.cell (i := 0) rfl
  have c1 := eenter l.g l.cs l.J l.X l.Ord o (x.pp ▸ ok) A k (VV vx) (x.pp ▸ hk) hl w x.rx x.j x.lv (fun b hb => (x.nx b hb).1)
  have HX : Hid (Ax l w p o A D Y) := x
  have HK : Hid l.Ok := ok
  clear x ok
  go_enter Try.func47, Try.ntmps47
  go_wp2_with fail
  refine cI.mono ?_
  rintro v w' ⟨rfl, hw'⟩
  subst hw'
  clear cI
  go_wp2_with fail
  refine c1.mono ?_
  rintro v w5 ⟨rfl, o5, A5, hg5, hi5⟩
  clear c1
  obtain ⟨x6, b6⟩ := HX.out.goes HK.out hg5 (D' := D ++ [⟨k, VV vx, A.last + 1⟩]) ⟨by rw [List.length_append, HX.out.dn.len, hi5.n]; rfl, fun y => by rw [List.mem_append, hi5.has, HX.out.dn.mem, List.mem_singleton], add_srt HX.out.dn.srt fun y hy => by have := HX.out.dn.num HX.out.rx.ok hy; simp only; omega⟩ (fun h => hi5.hp h (HX.out.hp h))
  have A6 : Hid (Ag l w5 p (D ++ [⟨k, VV vx, A.last + 1⟩]) (A.last + 1) Y) := ⟨HK.out, o5, A5, x6, hi5.last⟩
  have E6 : Hid (But (Els Y) w' w5) := b6
  clear x6 b6 hg5 hi5 HX
  go_wp2_with fail
  go_ret2
  exact ⟨rfl, A6.out, E6.out⟩

set_option maxHeartbeats 1000000 in
theorem enewrow (P : Int → Value → Prop) (g : Nat) (cs : Array Value) (w : World) :
    Calls Try.prog 53 #[.func (.func g) #[] cs] w fun v w' => ∃ o, v = .returned (ptr o.r) ∧ (o.lv = .func (.func g) #[] cs ∧ o.ev = .slice none 0 0 ∧ w.heap.size ≤ o.r ∧ w.heap.size ≤ o.bm ∧ o.P = P) ∧ Rx w' o ⟨fun _ => ⟨0, zV, 0⟩, 0, 0⟩ ∧ Below w.heap.size w w' := by
  have hm := @run_makeMap Try.prog
  have HB : Hid (Below w.heap.size w ((w.alloc (.map #[] 0)).alloc (.cells #[.func (.func g) #[] cs, .slice none 0 0, .map (some w.heap.size), .int .i64 0] 102))) := ((Below.refl _ w).alloc (Nat.le_refl _) _).alloc (by simp) _
  have HX : Hid (Rx ((w.alloc (.map #[] 0)).alloc (.cells #[.func (.func g) #[] cs, .slice none 0 0, .map (some w.heap.size), .int .i64 0] 102)) ⟨P, w.heap.size + 1, w.heap.size, .func (.func g) #[] cs, .slice none 0 0, fun _ => 0, []⟩ ⟨fun _ => ⟨0, zV, 0⟩, 0, 0⟩) := by
    refine ⟨?_, World.ownsRow_nil _ _ _ _, fun i hi => absurd hi (Nat.not_lt_zero _), ?_, fun z => ⟨fun h => absurd h (by simp), fun ⟨i, hi, _⟩ => absurd hi (Nat.not_lt_zero _)⟩, by simp, ⟨fun i _ hi => absurd hi (Nat.not_lt_zero _), fun i hi => absurd hi (Nat.not_lt_zero _), Nat.le_refl _, fun i hi => absurd hi (Nat.not_lt_zero _), by show 0 ≤ _; omega⟩⟩
    · have h := blk_new (w.alloc (.map #[] 0)) [.func (.func g) #[] cs, .slice none 0 0, .map (some w.heap.size), .int .i64 0] 102
      rw [World.size_alloc] at h
      exact h
    · exact (mq_new w _).same (Below.heap_alloc _ _ _ (by simp))
  go_enter Try.func53, Try.ntmps53
  go_wp2_with fail
  go_ret
  exact ⟨_, rfl, ⟨rfl, rfl, Nat.le_succ _, Nat.le_refl _, rfl⟩, HX.out, HB.out⟩

set_option maxHeartbeats 1000000 in
theorem nilF (g : Nat) (cs : Array Value) (W : World) : (binOp .eql 84 (.func (.func g) #[] cs) .nilFunc).run Try.prog W = .ok (.bool false) W := by kernel_rfl
set_option maxHeartbeats 1000000 in
theorem newA (l : Le) (w : World) (ok : l.Ok) (hJ : l.J w) :
    Calls Try.prog 45 #[.func (.func l.g) #[] l.cs] w fun v w' => ∃ p, v = .returned (ptr p) ∧ Ag l w' p [] 0 (fun b => b < w.heap.size ∧ ¬ l.X b) ∧ w.heap.size ≤ p ∧ Below w.heap.size w w' := by
  have cR := enewrow l.P l.g l.cs w
  have HK : Hid l.Ok := ok
  have HJ : Hid (l.J w) := hJ
  have hnf := fun W => nilF l.g l.cs W
  clear ok hJ
  go_enter Try.func45, Try.ntmps45
  go_wp2_with fail
  refine cR.mono ?_
  rintro v w1 ⟨o, rfl, ⟨h1, h2, h3, h4, h5⟩, x1, b1⟩
  clear cR
  have HX : Hid (Rx w1 o ⟨fun _ => ⟨0, zV, 0⟩, 0, 0⟩) := x1
  have HB : Hid (Below w.heap.size w w1) := b1
  clear x1 b1
  go_wp2_with fail
  go_ret
  have hb2 : Below w1.heap.size w1 (w1.alloc (.cells #[ptr o.r] 94)) := (Below.refl _ w1).alloc (Nat.le_refl _) _
  have hb3 : Below w.heap.size w (w1.alloc (.cells #[ptr o.r] 94)) := HB.out.trans (hb2.mono HB.out.size)
  have hsz := HB.out.size
  have hh : ∀ b, o.has ⟨fun _ => ⟨0, zV, 0⟩, 0, 0⟩ b → w.heap.size ≤ b := by
    rintro b (h | h | h | ⟨i, hi, _⟩)
    · omega
    · omega
    · rw [h2] at h; cases h
    · exact absurd hi (Nat.not_lt_zero _)
  refine ⟨w1.heap.size, rfl, ⟨HK.out, o, ⟨fun _ => ⟨0, zV, 0⟩, 0, 0⟩, ⟨blk_new w1 [ptr o.r] _, HX.out.below hb2, h1, h5, HK.out.st _ _ HJ.out (But.of hb3), fun b hb => ?_, fun b hb => ?_, fun h => Nat.lt_irrefl _ (HX.out.lt h), ⟨rfl, fun y => ⟨fun h => absurd h (by simp), fun ⟨i, hi, _⟩ => absurd hi (Nat.not_lt_zero _)⟩, List.Pairwise.nil⟩, fun _ c _ hc => absurd hc (Nat.not_lt_zero _)⟩, rfl⟩, hsz, hb3⟩
  · have := HK.out.lt _ _ HJ.out hb
    exact ⟨fun h => by have := hh b h; omega, by omega⟩
  · exact ⟨by have := hb3.size; omega, fun h => by have := hh b h; omega, by omega, hb.2⟩

abbrev sqV (N2 : Nat) : Value := .func (.func 60) #[] #[ptr N2]
abbrev bx1 (w : World) (v : Value) (T : TypeId) : World := w.alloc (.cells #[v] T)
set_option maxHeartbeats 1000000 in
theorem eeach0 (a : Value) (g : Nat) (w : World) (ha : a = .func (.func 57) #[ptr g] #[]) : Calls Try.prog 56 #[a] w fun e w' => e = .returned (sqV w.heap.size) ∧ w' = bx1 w a 97 := by
  subst ha
  go_enter Try.func56, Try.ntmps56
  go_wp2_with fail
  go_ret
  exact ⟨rfl, rfl⟩
set_option maxHeartbeats 1000000 in
theorem eDrain (p : Nat) (w : World) : Calls Try.prog 48 #[ptr p] w fun e w' => e = .returned (sqV w.heap.size) ∧ w' = bx1 w (.func (.func 57) #[ptr p] #[]) 97 := by
  have c := eeach0 _ p w rfl
  go_enter Try.func48, Try.ntmps48
  go_wp2_with fail
  refine c.mono ?_
  rintro e w' ⟨rfl, rfl⟩
  go_wp2_with fail
  go_ret
  exact ⟨rfl, rfl⟩
theorem feach : ∀ args W, (callFunc 60 args).run Try.prog W = .ok (.enter 60 args) W := enters_of Try.func60 (by kernel_rfl) rfl
end Go.Proofs.Ytcfmbppnghlkaaa
