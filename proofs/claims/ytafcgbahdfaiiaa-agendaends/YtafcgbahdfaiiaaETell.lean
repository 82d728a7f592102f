/- First, Pop: what an agenda tells. -/
import Derived.Test.YtafcgbahdfaiiaaEAg
import Derived.Shelf.Abstract
namespace Go.Proofs.Ytafcgbahdfaiiaa
open Go.RowKit Go.Sort Go.Shelf
set_option maxRecDepth 100000

abbrev tlV (e : En) : Value := .tuple #[thV e.k e.m, .int .i64 (e.n : Int), .bool true]
abbrev tl0 : Value := .tuple #[thV 0 0, .int .i64 0, .bool false]
abbrev bxT (w : World) : World := w.alloc (.cells #[.int .i8 0, .int .i64 0] 27)
theorem bxT_blk (w : World) : Blk (bxT w) w.heap.size 27 [.int .i8 0, .int .i64 0] := blk_new w _ _
set_option maxHeartbeats 1000000 in
theorem atell (gf : Nat) (en : ∀ args W, (callFunc gf args).run Try.prog W = .ok (.enter gf args) W) (w : World) (p r n be : Nat) (e : En) (Q : World → Prop) (hp : p < w.heap.size) (h0 : (bxT w).cell? ⟨p, 0, none⟩ = some (ptr r)) (hn : n ≠ 0)
    (cN : Calls Try.prog 11 #[ptr p] (bxT w) fun e w' => e = .returned (.int .i64 (n : Int)) ∧ w' = bxT w)
    (hc : Calls Try.prog gf #[ptr r] (bxT w) fun v w2 => v = .returned (ptr be) ∧ Q w2) (hQ : ∀ w2, Q w2 → (∃ q, Blk w2 be 74 (enC e q)) ∧ Blk w2 w.heap.size 27 [.int .i8 0, .int .i64 0]) :
    Calls Try.prog 33 #[ptr p, .func (.func gf) #[] #[]] w fun v w' => v = .returned (tlV e) ∧ ∃ w2, Q w2 ∧ w' = ((w2.setCell ⟨w.heap.size, 0, none⟩ (.int .i8 e.k)).setCell ⟨w.heap.size, 1, none⟩ (.int .i64 e.m)).drew := by
  obtain ⟨w1, hw1⟩ : ∃ w1, bxT w = w1 := ⟨_, rfl⟩
  rw [hw1] at h0 cN hc
  unfold bxT at hw1
  generalize hN : w.heap.size = N at *
  go_enter Try.func33, Try.ntmps33
  go_wp2_with fail
  refine cN.mono ?_
  rintro v w' ⟨rfl, hw'⟩
  subst hw'
  clear cN
  go_wp2_with fail
  refine hc.mono ?_
  rintro v w2 ⟨rfl, hq⟩
  clear hc
  obtain ⟨⟨q, hb⟩, hR⟩ := hQ w2 hq
  have a0 := hb.cell (i := 0) rfl
  have a1 := hb.cell (i := 1) rfl
  have a2 := hb.cell (i := 2) rfl
  have r0 := hR.cell (i := 0) rfl
  have r1 := hR.cell (i := 1) rfl
  have rf := hR.fz
  have hne : be ≠ N := by
    rintro rfl
    have h1 : w2.heap[be]? = _ := hb
    have h2 : w2.heap[be]? = _ := hR
    rw [h1] at h2; injection h2 with h2; injection h2 with _ h2; cases h2
  have HQ : Hid (Q w2) := hq
  have HR2 := ((hR.set 0 (.int .i8 e.k)).set 1 (.int .i64 e.m)).drew
  have s0 := HR2.cell (i := 0) (v := .int .i8 e.k) rfl
  have s1 := HR2.cell (i := 1) (v := .int .i64 e.m) rfl
  clear hb hR hq hQ hw1 HR2
  go_wp2_with fail
  go_region
  go_wp2_with fail
  exact bodyPost_ret (v := tlV e) (by simp [results, Try.results33, go_sem, s0, s1]) rfl ⟨rfl, w2, HQ.out, rfl⟩
set_option maxHeartbeats 1000000 in
theorem atell_0 (gf : Nat) (w : World) (p : Nat) (cN : Calls Try.prog 11 #[ptr p] (bxT w) fun e w' => e = .returned (.int .i64 0) ∧ w' = bxT w) :
    Calls Try.prog 33 #[ptr p, .func (.func gf) #[] #[]] w fun v w' => v = .returned tl0 ∧ Below w.heap.size w w' := by
  have HB : Hid (Below w.heap.size w (bxT w)) := (Below.refl _ w).alloc (Nat.le_refl _) _
  have r0 := (bxT_blk w).cell (i := 0) rfl
  have r1 := (bxT_blk w).cell (i := 1) rfl
  have rf := (bxT_blk w).fz
  obtain ⟨w1, hw1⟩ : ∃ w1, bxT w = w1 := ⟨_, rfl⟩
  have hlt : w.heap.size < w1.heap.size := by rw [← hw1]; exact (bxT_blk w).lt
  rw [hw1] at cN r0 r1 rf HB
  unfold bxT at hw1
  generalize hN : w.heap.size = N at *
  go_enter Try.func33, Try.ntmps33
  go_wp2_with fail
  refine cN.mono ?_
  rintro v w' ⟨rfl, hw'⟩
  subst hw'
  clear cN hw1
  have s0 := (bxT_blk w').cell (i := 0) rfl
  have s1 := (bxT_blk w').cell (i := 1) rfl
  have hb2 : Below w'.heap.size w' (bxT w') := (Below.refl _ w').alloc (Nat.le_refl _) _
  have t0 := (hb2.cell (p := ⟨N, 0, none⟩) hlt).trans r0
  have t1 := (hb2.cell (p := ⟨N, 1, none⟩) hlt).trans r1
  have tf : ∀ i, (bxT w').frozen? ⟨N, i, none⟩ = false := fun i => (World.frozen?_of_block (a := ⟨N, i, none⟩) (hb2.block N hlt)).trans (rf i)
  have HB2 : Hid (Below N w (bxT w')) := HB.out.trans (hb2.mono (by omega))
  obtain ⟨w2, hw2⟩ : ∃ w2, bxT w' = w2 := ⟨_, rfl⟩
  have hne : w'.heap.size ≠ N := by omega
  rw [hw2] at s0 s1 t0 t1 tf HB2
  unfold bxT at hw2
  clear hb2 r0 r1 rf
  generalize hM : w'.heap.size = M at *
  go_wp2_with fail
  refine bodyPost_ret (v := tl0) (by simp [results, Try.results33, go_sem, t0, t1]) rfl ⟨rfl, ?_⟩
  exact (HB2.out.setCell (Nat.le_refl _) _).setCell (Nat.le_refl _) _

section
variable {l : Le} {w : World} {p : Nat} {D : List En} {last : Nat} {Y : Nat → Prop}
theorem ffirst : ∀ args W, (callFunc 34 args).run Try.prog W = .ok (.enter 34 args) W := enters_of Try.func34 (by kernel_rfl) rfl
theorem ftake : ∀ args W, (callFunc 43 args).run Try.prog W = .ok (.enter 43 args) W := enters_of Try.func43 (by kernel_rfl) rfl
theorem Ax.isB {o : Ro} {A : Ar} (x : Ax l w p o A D Y) (h0 : 0 < A.n) : A.f 0 ∈ D ∧ (l.Ord → IsB D (A.f 0)) := by
  have h := (x.dn.mem (A.f 0)).2 ⟨0, h0, rfl⟩
  refine ⟨h, fun ho => ⟨h, fun y hy => ?_⟩⟩
  obtain ⟨i, hi, rfl⟩ := (x.dn.mem y).1 hy
  exact (x.hp ho).first i hi
theorem tell0 (a : Ag l w p [] last Y) (gf : Nat) : Calls Try.prog 33 #[ptr p, .func (.func gf) #[] #[]] w fun v w' => v = .returned tl0 ∧ Below w.heap.size w w' := by
  obtain ⟨ok, o, A, x, rfl⟩ := a.box (.cells #[.int .i8 0, .int .i64 0] 27)
  refine atell_0 gf w p ?_
  have h := alen l _ p o A [] _ x
  have hn : A.n = 0 := x.dn.len.symm
  rw [hn] at h
  exact h
theorem tellF (a : Ag l w p D last Y) (hD : D ≠ []) : Calls Try.prog 33 #[ptr p, .func (.func 34) #[] #[]] w fun v w' => ∃ e, (e ∈ D ∧ (l.Ord → IsB D e)) ∧ v = .returned (tlV e) ∧ Below w.heap.size w w' := by
  obtain ⟨ok, o, A, x, rfl⟩ := a.box (.cells #[.int .i8 0, .int .i64 0] 27)
  have h0 : 0 < A.n := by rw [← x.dn.len]; exact List.length_pos_iff.2 hD
  have hb : Below w.heap.size w (bxT w) := (Below.refl _ w).alloc (Nat.le_refl _) _
  have hpw : p < w.heap.size := by
    have := (x.ny w.heap.size (.inr rfl)).2.2.1
    have h := x.pb.lt
    rw [World.size_alloc] at h
    omega
  refine (atell 34 ffirst w p o.r A.n (o.bl (A.f 0).n) (A.f 0) (fun w2 => w2 = bxT w) hpw (x.pb.cell (i := 0) rfl) (by omega) (alen l _ p o A D _ x) (efirst o A _ x.rx h0) ?_).mono ?_
  · rintro w2 rfl
    exact ⟨⟨0, x.rx.en 0 h0⟩, bxT_blk w⟩
  · rintro v w' ⟨rfl, w2, rfl, rfl⟩
    exact ⟨A.f 0, x.isB h0, rfl, ((hb.setCell (Nat.le_refl _) _).setCell (Nat.le_refl _) _).drew⟩
theorem Out.dn {A A' : Ar} {e : En} {Ord : Prop} (h : Out Ord A A' e) (d : Dn D A) (he : e ∈ D) : Dn (dropD D e.n) A' := by
  refine ⟨?_, fun y => ?_, drop_srt d.srt _⟩
  · have := drop_len d.srt he
    have := d.len
    have := h.n
    omega
  · rw [mem_drop, h.has, d.mem]
    constructor
    · rintro ⟨h1, h2⟩; exact ⟨h1, by rintro rfl; exact h2 rfl⟩
    · rintro ⟨h1, h2⟩; exact ⟨h1, fun h3 => h2 (srt_uniq d.srt ((d.mem y).2 h1) he h3)⟩
theorem tellT (a : Ag l w p D last Y) (hD : D ≠ []) : Calls Try.prog 33 #[ptr p, .func (.func 43) #[] #[]] w fun v w' => ∃ e, (e ∈ D ∧ (l.Ord → IsB D e)) ∧ v = .returned (tlV e) ∧ Ag l w' p (dropD D e.n) last Y ∧ But (Els Y) w w' := by
  obtain ⟨ok, o, A, x, rfl⟩ := a.box (.cells #[.int .i8 0, .int .i64 0] 27)
  have h0 : 0 < A.n := by rw [← x.dn.len]; exact List.length_pos_iff.2 hD
  have hb : Below w.heap.size w (bxT w) := (Below.refl _ w).alloc (Nat.le_refl _) _
  have hpw : p < w.heap.size := by
    have := (x.ny w.heap.size (.inr rfl)).2.2.1
    have h := x.pb.lt
    rw [World.size_alloc] at h
    omega
  have hN := x.ny w.heap.size (.inr rfl)
  have hjj : l.J (l.b (dropD D (A.f 0).n) A.last + 4 * A.n) (bxT w) := ok.mt _ _ _ (by have h1 := drop_len x.dn.srt (x.isB h0).1; have h2 := x.rx.ok.nl; have h3 := x.rx.ok.lb; unfold Le.b; omega) x.j
  refine (atell 43 ftake w p o.r A.n (o.bl (A.f 0).n) (A.f 0) (fun w2 => ∃ o' A', Gs (l.J (l.b (dropD D (A.f 0).n) A.last)) l.X (bxT w) o A w2 o' A' ∧ Out l.Ord A A' (A.f 0) ∧ ∃ q, Blk w2 (o.bl (A.f 0).n) 74 (enC (A.f 0) q)) hpw (x.pb.cell (i := 0) rfl) (by omega) (alen l _ p o A D _ x) (etake l.g l.cs l.J (l.b (dropD D (A.f 0).n) A.last) l.X l.Ord ok o A h0 _ x.rx hjj x.lv (fun b hb => (x.nx b hb).1)) ?_).mono ?_
  · rintro w2 ⟨o', A', hg, ho, hq⟩
    exact ⟨hq, (bxT_blk w).but hg.but (fun h => h.elim hN.2.1 hN.2.2.2)⟩
  · rintro v w' ⟨rfl, w2, ⟨o', A', hg, ho, hq⟩, rfl⟩
    obtain ⟨x2, b2⟩ := x.goes ok hg (by rw [ho.last]; exact Nat.le_refl _) (ho.dn x.dn (x.isB h0).1) (fun h => ho.hp h (x.hp h))
    have a2 : Ag l w2 p (dropD D (A.f 0).n) A.last (fun b => Y b ∨ b = w.heap.size) := ⟨ok, o', A', x2, ho.last⟩
    have b3 : But (fun b => b = w.heap.size) w2 (((w2.setCell ⟨w.heap.size, 0, none⟩ (.int .i8 (A.f 0).k)).setCell ⟨w.heap.size, 1, none⟩ (.int .i64 (A.f 0).m)).drew) := (((But.refl (fun b => b = w.heap.size) w2).setCell (p := ⟨w.heap.size, 0, none⟩) rfl _).setCell (p := ⟨w.heap.size, 1, none⟩) rfl _).drew
    refine ⟨A.f 0, x.isB h0, rfl, (a2.but b3 (fun _ h => .inr h)).less (fun _ h => .inl h), ?_⟩
    refine (((But.refl (Els Y) w).alloc _).trans (b2.mono fun b hb hy => hb (.inl hy))).onto b3 fun b hb => .inr (by omega)
end
end Go.Proofs.Ytafcgbahdfaiiaa
