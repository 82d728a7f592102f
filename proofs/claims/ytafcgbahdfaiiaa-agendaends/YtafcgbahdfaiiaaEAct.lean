/- What the calls of an agenda do. -/
import Derived.Test.YtafcgbahdfaiiaaETell
namespace Go.Proofs.Ytafcgbahdfaiiaa
open Go.RowKit Go.Sort
set_option maxRecDepth 100000

section
variable {l : Le} {w : World} {p : Nat} {D : List En} {last : Nat} {Y : Nat → Prop}
theorem lenA (a : Ag l w p D last Y) : Calls Try.prog 11 #[ptr p] w fun v w' => v = .returned (.int .i64 (D.length : Int)) ∧ w' = w := by
  obtain ⟨ok, o, A, x, rfl⟩ := a
  rw [x.dn.len]
  exact alen l w p o A D Y x
/-- a result's box is filled -/
theorem fill_but {w1 w2 : World} {N : Nat} {S : Nat → Prop} (h : But S w1 w2) (hN : S N) (u v : Value) : But S w1 ((w2.setCell ⟨N, 0, none⟩ u).setCell ⟨N, 1, none⟩ v) := (h.setCell (p := ⟨N, 0, none⟩) hN u).setCell (p := ⟨N, 1, none⟩) hN v
end
set_option maxHeartbeats 1000000 in
theorem aFirst_w (w : World) (p : Nat) (Q : Int → Int → Int → Bool → World → Prop)
    (hc : Calls Try.prog 33 #[ptr p, .func (.func 34) #[] #[]] (bxT w) fun v w2 => ∃ k m n b, v = .returned (.tuple #[thV k m, .int .i64 n, .bool b]) ∧ Q k m n b w2) (hQ : ∀ k m n b w2, Q k m n b w2 → Blk w2 w.heap.size 27 [.int .i8 0, .int .i64 0]) :
    Calls Try.prog 12 #[ptr p] w fun v w' => ∃ k m n b w2, v = .returned (.tuple #[thV k m, .int .i64 n, .bool b]) ∧ Q k m n b w2 ∧ w' = (w2.setCell ⟨w.heap.size, 0, none⟩ (.int .i8 k)).setCell ⟨w.heap.size, 1, none⟩ (.int .i64 m) := by
  obtain ⟨w1, hw1⟩ : ∃ w1, bxT w = w1 := ⟨_, rfl⟩
  rw [hw1] at hc
  unfold bxT at hw1
  generalize hN : w.heap.size = N at *
  go_enter Try.func12, Try.ntmps12
  go_wp2_with fail
  refine hc.mono ?_
  rintro v w2 ⟨k, m, n, b, rfl, hq⟩
  have hR := hQ k m n b w2 hq
  have r0 := hR.cell (i := 0) rfl
  have r1 := hR.cell (i := 1) rfl
  have rf := hR.fz
  have HR2 := (hR.set 0 (.int .i8 k)).set 1 (.int .i64 m)
  have s0 := HR2.cell (i := 0) (v := .int .i8 k) rfl
  have s1 := HR2.cell (i := 1) (v := .int .i64 m) rfl
  have HQ : Hid (Q k m n b w2) := hq
  clear hc hw1 hq hQ hR HR2
  unfold thV at *
  go_wp2_with fail
  exact bodyPost_ret (v := .tuple #[thV k m, .int .i64 n, .bool b]) (by simp [results, Try.results12, go_sem, s0, s1]) rfl ⟨k, m, n, b, w2, rfl, HQ.out, rfl⟩
set_option maxHeartbeats 1000000 in
theorem aPop_w (w : World) (p : Nat) (Q : Int → Int → Int → Bool → World → Prop)
    (hc : Calls Try.prog 33 #[ptr p, .func (.func 43) #[] #[]] (bxT w) fun v w2 => ∃ k m n b, v = .returned (.tuple #[thV k m, .int .i64 n, .bool b]) ∧ Q k m n b w2) (hQ : ∀ k m n b w2, Q k m n b w2 → Blk w2 w.heap.size 27 [.int .i8 0, .int .i64 0]) :
    Calls Try.prog 23 #[ptr p] w fun v w' => ∃ k m n b w2, v = .returned (.tuple #[thV k m, .int .i64 n, .bool b]) ∧ Q k m n b w2 ∧ w' = (w2.setCell ⟨w.heap.size, 0, none⟩ (.int .i8 k)).setCell ⟨w.heap.size, 1, none⟩ (.int .i64 m) := by
  obtain ⟨w1, hw1⟩ : ∃ w1, bxT w = w1 := ⟨_, rfl⟩
  rw [hw1] at hc
  unfold bxT at hw1
  generalize hN : w.heap.size = N at *
  go_enter Try.func23, Try.ntmps23
  go_wp2_with fail
  refine hc.mono ?_
  rintro v w2 ⟨k, m, n, b, rfl, hq⟩
  have hR := hQ k m n b w2 hq
  have r0 := hR.cell (i := 0) rfl
  have r1 := hR.cell (i := 1) rfl
  have rf := hR.fz
  have HR2 := (hR.set 0 (.int .i8 k)).set 1 (.int .i64 m)
  have s0 := HR2.cell (i := 0) (v := .int .i8 k) rfl
  have s1 := HR2.cell (i := 1) (v := .int .i64 m) rfl
  have HQ : Hid (Q k m n b w2) := hq
  clear hc hw1 hq hQ hR HR2
  unfold thV at *
  go_wp2_with fail
  exact bodyPost_ret (v := .tuple #[thV k m, .int .i64 n, .bool b]) (by simp [results, Try.results23, go_sem, s0, s1]) rfl ⟨k, m, n, b, w2, rfl, HQ.out, rfl⟩
section
variable {l : Le} {w : World} {p : Nat} {D : List En} {last : Nat} {Y : Nat → Prop}
theorem bxT_but (S : Nat → Prop) (w : World) : But S w (bxT w) := (But.refl S w).alloc _
theorem end_a {w1 : World} {N : Nat} (a1 : Ag l w1 p D last (fun b => Y b ∨ b = N)) (u v : Value) : Ag l ((w1.setCell ⟨N, 0, none⟩ u).setCell ⟨N, 1, none⟩ v) p D last Y :=
  (a1.but (fill_but (S := fun b => b = N) (But.refl _ _) rfl u v) (fun _ h => .inr h)).less fun _ h => .inl h
theorem end_b {w1 : World} (h : But (Els (fun b => Y b ∨ b = w.heap.size)) (bxT w) w1) (u v : Value) : But (Els Y) w ((w1.setCell ⟨w.heap.size, 0, none⟩ u).setCell ⟨w.heap.size, 1, none⟩ v) :=
  ((bxT_but (Els Y) w).trans (h.mono fun b hb hy => hb (.inl hy))).onto (fill_but (S := fun b => b = w.heap.size) (But.refl _ _) rfl u v) fun b hb => .inr (by omega)
theorem box_kept {w1 : World} (h : But (Els (fun b => Y b ∨ b = w.heap.size)) (bxT w) w1) : Blk w1 w.heap.size 27 [.int .i8 0, .int .i64 0] := (bxT_blk w).but h fun h' => h' (.inr rfl)
theorem first0 (a : Ag l w p [] last Y) : Calls Try.prog 12 #[ptr p] w fun v w' => v = .returned tl0 ∧ Ag l w' p [] last Y ∧ But (Els Y) w w' := by
  have a1 : Ag l (bxT w) p [] last (fun b => Y b ∨ b = w.heap.size) := a.box _
  refine (aFirst_w w p (fun k m n b w2 => (k = 0 ∧ m = 0 ∧ n = 0 ∧ b = false) ∧ Below (bxT w).heap.size (bxT w) w2) ((tell0 a1 34).mono fun v w2 h => ⟨0, 0, 0, false, h.1, ⟨rfl, rfl, rfl, rfl⟩, h.2⟩) fun k m n b w2 h => (bxT_blk w).below h.2).mono ?_
  rintro v w' ⟨k, m, n, b, w2, rfl, ⟨⟨rfl, rfl, rfl, rfl⟩, hb⟩, rfl⟩
  exact ⟨rfl, end_a (a1.below hb) _ _, end_b (But.of hb) _ _⟩
theorem pop0 (a : Ag l w p [] last Y) : Calls Try.prog 23 #[ptr p] w fun v w' => v = .returned tl0 ∧ Ag l w' p [] last Y ∧ But (Els Y) w w' := by
  have a1 : Ag l (bxT w) p [] last (fun b => Y b ∨ b = w.heap.size) := a.box _
  refine (aPop_w w p (fun k m n b w2 => (k = 0 ∧ m = 0 ∧ n = 0 ∧ b = false) ∧ Below (bxT w).heap.size (bxT w) w2) ((tell0 a1 43).mono fun v w2 h => ⟨0, 0, 0, false, h.1, ⟨rfl, rfl, rfl, rfl⟩, h.2⟩) fun k m n b w2 h => (bxT_blk w).below h.2).mono ?_
  rintro v w' ⟨k, m, n, b, w2, rfl, ⟨⟨rfl, rfl, rfl, rfl⟩, hb⟩, rfl⟩
  exact ⟨rfl, end_a (a1.below hb) _ _, end_b (But.of hb) _ _⟩
theorem firstA (a : Ag l w p D last Y) (hD : D ≠ []) : Calls Try.prog 12 #[ptr p] w fun v w' => ∃ e, (e ∈ D ∧ (l.Ord → IsB D e)) ∧ v = .returned (tlV e) ∧ Ag l w' p D last Y ∧ But (Els Y) w w' := by
  have a1 : Ag l (bxT w) p D last (fun b => Y b ∨ b = w.heap.size) := a.box _
  refine (aFirst_w w p (fun k m n b w2 => (∃ e : En, (e ∈ D ∧ (l.Ord → IsB D e)) ∧ k = e.k ∧ m = e.m ∧ n = e.n ∧ b = true) ∧ Below (bxT w).heap.size (bxT w) w2) ((tellF a1 hD).mono fun v w2 ⟨e, he, hv, hb⟩ => ⟨e.k, e.m, e.n, true, hv, ⟨e, he, rfl, rfl, rfl, rfl⟩, hb⟩) fun k m n b w2 h => (bxT_blk w).below h.2).mono ?_
  rintro v w' ⟨k, m, n, b, w2, rfl, ⟨⟨e, he, rfl, rfl, rfl, rfl⟩, hb⟩, rfl⟩
  exact ⟨e, he, rfl, end_a (a1.below hb) _ _, end_b (But.of hb) _ _⟩
theorem popA (a : Ag l w p D last Y) (hD : D ≠ []) : Calls Try.prog 23 #[ptr p] w fun v w' => ∃ e, (e ∈ D ∧ (l.Ord → IsB D e)) ∧ v = .returned (tlV e) ∧ Ag l w' p (dropD D e.n) last Y ∧ But (Els Y) w w' := by
  have a1 : Ag l (bxT w) p D last (fun b => Y b ∨ b = w.heap.size) := a.box _
  refine (aPop_w w p (fun k m n b w2 => ∃ e : En, (e ∈ D ∧ (l.Ord → IsB D e)) ∧ (k = e.k ∧ m = e.m ∧ n = e.n ∧ b = true) ∧ Ag l w2 p (dropD D e.n) last (fun b => Y b ∨ b = w.heap.size) ∧ But (Els (fun b => Y b ∨ b = w.heap.size)) (bxT w) w2) ((tellT a1 hD).mono fun v w2 ⟨e, he, hv, ha, hb⟩ => ⟨e.k, e.m, e.n, true, hv, e, he, ⟨rfl, rfl, rfl, rfl⟩, ha, hb⟩) fun k m n b w2 ⟨e, _, _, _, hb⟩ => box_kept hb).mono ?_
  rintro v w' ⟨k, m, n, b, w2, rfl, ⟨e, he, ⟨rfl, rfl, rfl, rfl⟩, ha, hb⟩, rfl⟩
  exact ⟨e, he, rfl, end_a ha _ _, end_b hb _ _⟩
end
set_option maxHeartbeats 1000000 in
theorem pushA {l : Le} {w : World} {p : Nat} {D : List En} {last : Nat} {Y : Nat → Prop} (a : Ag l w p D last Y) (hl : last + 1 ≤ 1000000) (k m : Int) (hk : -128 ≤ k ∧ k ≤ 127) :
    Calls Try.prog 22 #[ptr p, thV k m] w fun v w' => v = .returned (.tuple #[.int .i64 ((last + 1 : Nat) : Int), .int .i64 0]) ∧ Ag l w' p (D ++ [⟨k, m, last + 1⟩]) (last + 1) Y ∧ But (Els Y) w w' := by
  obtain ⟨w1, hw1⟩ : ∃ w1, w.alloc (.cells #[.int .i8 k, .int .i64 m] 27) = w1 := ⟨_, rfl⟩
  have a1 := a.box (.cells #[.int .i8 k, .int .i64 m] 27)
  have k0 := (blk_new w [.int .i8 k, .int .i64 m] 27).cell (i := 0) rfl
  have k1 := (blk_new w [.int .i8 k, .int .i64 m] 27).cell (i := 1) rfl
  have E1 : Hid (But (Els Y) w w1) := by rw [← hw1]; exact (But.refl _ w).alloc _
  rw [hw1] at a1 k0 k1
  obtain ⟨ok, o, A, x, rfl⟩ := a1
  have cI := ais l w1 p o A D _ x
  have h0 := x.pb.cell (i := 0) rfl
  have xd := x.below ok ((Below.refl _ w1).drew)
  have hjj : l.J (l.b (D ++ [⟨k, m, A.last + 1⟩]) (A.last + 1) + (A.n + 1)) w1.drew := ok.mt _ _ _ (by have h1 := x.dn.len; have h2 := x.rx.ok.nl; have h3 := x.rx.ok.lb; unfold Le.b; rw [List.length_append, List.length_singleton]; omega) xd.j
  have c1 := eenter l.g l.cs l.J (l.b (D ++ [⟨k, m, A.last + 1⟩]) (A.last + 1)) l.X l.Ord ok o A k m hk hl w1.drew xd.rx hjj xd.lv (fun b hb => (x.nx b hb).1)
  have HX : Hid (Ax l w1.drew p o A D (fun b => Y b ∨ b = w.heap.size)) := xd
  have HK : Hid l.Ok := ok
  have HN := HX.out.ny w.heap.size (.inr rfl)
  have toS : ∀ W, But (fun b => o.has A b ∨ l.X b) w1.drew W → W.cell? ⟨p, 0, none⟩ = some (ptr o.r) ∧ W.cell? ⟨w.heap.size, 0, none⟩ = some (.int .i8 k) ∧ W.cell? ⟨w.heap.size, 1, none⟩ = some (.int .i64 m) := fun W h =>
    ⟨h.cell h0 (fun h => h.elim x.np (fun h => (x.nx p h).2 rfl)), h.cell k0 (fun h => h.elim HN.2.1 HN.2.2.2), h.cell k1 (fun h => h.elim HN.2.1 HN.2.2.2)⟩
  clear x a xd HN hjj
  generalize hN : w.heap.size = N at *
  unfold thV at *
  go_enter Try.func22, Try.ntmps22
  go_wp2_with fail
  refine cI.mono ?_
  rintro v w' ⟨rfl, hw'⟩
  subst hw'
  clear cI hw1 ok
  go_wp2_with fail
  go_region_held3 (fun W => W.cell? ⟨p, 0, none⟩ = some (ptr o.r) ∧ W.cell? ⟨N, 0, none⟩ = some (.int .i8 k) ∧ W.cell? ⟨N, 1, none⟩ = some (.int .i64 m)) (first | assumption | exact toS _ (by assumption) | exact toS _ (But.refl _ _)) (first | (go_at_call 42; (with_reducible refine c1.mono ?_); rintro v w5 ⟨rfl, o5, A5, hg5, hi5⟩; have hbb := hg5.but))
  obtain ⟨x6, b6⟩ := HX.out.goes HK.out hg5 (D' := D ++ [⟨k, m, A.last + 1⟩]) (by rw [hi5.last]; exact Nat.le_refl _) ⟨by rw [List.length_append, HX.out.dn.len, hi5.n]; rfl, fun y => by rw [List.mem_append, hi5.has, HX.out.dn.mem, List.mem_singleton], add_srt HX.out.dn.srt fun y hy => by have := HX.out.dn.num HX.out.rx.ok hy; simp only; omega⟩ (fun h => hi5.hp h (HX.out.hp h))
  have A6 : Hid (Ag l w5 p (D ++ [⟨k, m, A.last + 1⟩]) (A.last + 1) Y) := ⟨HK.out, o5, A5, ⟨x6.pb, x6.rx, x6.lv, x6.j, x6.nx, fun b hb => x6.ny b (.inl hb), x6.np, x6.dn, x6.hp⟩, hi5.last⟩
  have E6 : Hid (But (Els Y) w w5) := E1.out.trans ((But.refl (Els Y) w').drew.trans (b6.mono fun b hb hy => hb (.inl hy)))
  clear x6 b6 hbb hg5 hi5 HX
  go_wp2_with fail
  go_ret2
  exact ⟨rfl, A6.out, E6.out⟩
end Go.Proofs.Ytafcgbahdfaiiaa
