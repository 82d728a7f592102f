/- Pop, Push of an agenda over one-cell elements: what it tells; New, Drain. -/
import Derived.Test.YtcfmbppnghlkaaaFAg
import Derived.Shelf.Abstract
namespace Go.Proofs.Ytcfmbppnghlkaaa
open Go.RowKit Go.Sort Go.Shelf
set_option maxRecDepth 100000

abbrev tlV (e : En) : Value := .tuple #[e.m, .int .i64 (e.n : Int), .bool true]
abbrev tl0 : Value := .tuple #[zV, .int .i64 0, .bool false]
set_option maxHeartbeats 1000000 in
theorem atell (gf : Nat) (en : ∀ args W, (callFunc gf args).run Try.prog W = .ok (.enter gf args) W) (w : World) (p r n be : Nat) (e : En) (vx : VX) (hv : e.m = VV vx) (Q : World → Prop) (h0 : w.cell? ⟨p, 0, none⟩ = some (ptr r)) (hn : n ≠ 0)
    (cN : Calls Try.prog 64 #[ptr p] w fun e w' => e = .returned (.int .i64 (n : Int)) ∧ w' = w)
    (hc : Calls Try.prog gf #[ptr r] w fun v w2 => v = .returned (ptr be) ∧ Q w2) (hQ : ∀ w2, Q w2 → ∃ q, Blk w2 be 105 (enC e q)) :
    Calls Try.prog 61 #[ptr p, .func (.func gf) #[] #[]] w fun v w' => v = .returned (tlV e) ∧ ∃ w2, Q w2 ∧ w' = w2.drew := by
  go_enter Try.func61, Try.ntmps61
  go_wp2_with fail
  refine cN.mono ?_
  rintro v w' ⟨rfl, hw'⟩
  subst hw'
  clear cN
  go_wp2_with fail
  refine hc.mono ?_
  rintro v w2 ⟨rfl, hq⟩
  clear hc
  obtain ⟨q, hb⟩ := hQ w2 hq
  obtain ⟨k, m, n'⟩ := e
  simp only at hv
  subst hv
  have a0 := hb.cell (i := 0) rfl
  have a1 := hb.cell (i := 1) rfl
  have HQ : Hid (Q w2) := hq
  clear hb hq hQ
  go_wp2_with fail
  go_region
  go_wp2_with fail
  exact bodyPost_ret (v := .tuple #[VV vx, .int .i64 (n' : Int), .bool true]) (by simp [results, Try.results61, go_sem]) rfl ⟨rfl, w2, HQ.out, rfl⟩
set_option maxHeartbeats 1000000 in
theorem atell_0 (gf : Nat) (w : World) (p : Nat) (cN : Calls Try.prog 64 #[ptr p] w fun e w' => e = .returned (.int .i64 0) ∧ w' = w) :
    Calls Try.prog 61 #[ptr p, .func (.func gf) #[] #[]] w fun v w' => v = .returned tl0 ∧ w' = w := by
  go_enter Try.func61, Try.ntmps61
  go_wp2_with fail
  refine cN.mono ?_
  rintro v w' ⟨rfl, hw'⟩
  subst hw'
  clear cN
  go_wp2_with fail
  exact bodyPost_ret (v := tl0) (by simp [results, Try.results61, go_sem]) rfl ⟨rfl, rfl⟩

section
variable {l : Le} {w : World} {p : Nat} {D : List En} {last : Nat} {Y : Nat → Prop}
theorem ftake : ∀ args W, (callFunc 62 args).run Try.prog W = .ok (.enter 62 args) W := enters_of Try.func62 (by kernel_rfl) rfl
theorem Ax.isB {o : Ro} {A : Ar} (x : Ax l w p o A D Y) (h0 : 0 < A.n) : A.f 0 ∈ D ∧ (l.Ord → IsB D (A.f 0)) := by
  have h := (x.dn.mem (A.f 0)).2 ⟨0, h0, rfl⟩
  refine ⟨h, fun ho => ⟨h, fun y hy => ?_⟩⟩
  obtain ⟨i, hi, rfl⟩ := (x.dn.mem y).1 hy
  exact (x.hp ho).first i hi
theorem tell0 (a : Ag l w p [] last Y) (gf : Nat) : Calls Try.prog 61 #[ptr p, .func (.func gf) #[] #[]] w fun v w' => v = .returned tl0 ∧ w' = w := by
  obtain ⟨ok, o, A, x, rfl⟩ := a
  refine atell_0 gf w p ?_
  have h := alen l _ p o A [] _ x
  have hn : A.n = 0 := x.dn.len.symm
  rw [hn] at h
  exact h
theorem Out.dn {A A' : Ar} {e : En} {Ord : Prop} (h : Out Ord A A' e) (d : Dn D A) (he : e ∈ D) : Dn (dropD D e.n) A' := by
  refine ⟨?_, fun y => ?_, drop_srt d.srt _⟩
  · have := drop_len d.srt he
    have := d.len
    have := h.n
    omega
  · rw [mem_drop, h.has, d.mem]
    constructor
    · rintro ⟨h1, h2⟩; exact ⟨h1, by rintro rfl; exact h2 rfl⟩
    · rintro ⟨h1, h2⟩; exact ⟨h1, fun h3 => h2 (srt_uniq d.srt ((d.mem y).2 h1) he h3)⟩
theorem tellT (a : Ag l w p D last Y) (hD : D ≠ []) : Calls Try.prog 61 #[ptr p, .func (.func 62) #[] #[]] w fun v w' => ∃ e, (e ∈ D ∧ (l.Ord → IsB D e)) ∧ v = .returned (tlV e) ∧ Ag l w' p (dropD D e.n) last Y ∧ But (Els Y) w w' := by
  obtain ⟨ok, o, A, x, rfl⟩ := a
  have h0 : 0 < A.n := by rw [← x.dn.len]; exact List.length_pos_iff.2 hD
  obtain ⟨vx, hvx⟩ := ok.sh _ _ (x.pp ▸ x.dn.num x.rx.ok (x.isB h0).1).2.2
  refine (atell 62 ftake w p o.r A.n (o.bl (A.f 0).n) (A.f 0) vx hvx (fun w2 => ∃ o' A', Gs l.J l.X w o A w2 o' A' ∧ Out l.Ord A A' (A.f 0) ∧ ∃ q, Blk w2 (o.bl (A.f 0).n) 105 (enC (A.f 0) q)) (x.pb.cell (i := 0) rfl) (by omega) (alen l _ p o A D _ x) (etake l.g l.cs l.J l.X l.Ord o (x.pp ▸ ok) A h0 _ x.rx x.j x.lv (fun b hb => (x.nx b hb).1)) ?_).mono ?_
  · rintro w2 ⟨o', A', hg, ho, hq⟩
    exact hq
  · rintro v w' ⟨rfl, w2, ⟨o', A', hg, ho, hq⟩, rfl⟩
    obtain ⟨x2, b2⟩ := x.goes ok hg (ho.dn x.dn (x.isB h0).1) (fun h => ho.hp h (x.hp h))
    have a2 : Ag l w2 p (dropD D (A.f 0).n) A.last Y := ⟨ok, o', A', x2, ho.last⟩
    exact ⟨A.f 0, x.isB h0, rfl, a2.below (Below.refl _ w2).drew, b2.drew⟩
end
end Go.Proofs.Ytcfmbppnghlkaaa
