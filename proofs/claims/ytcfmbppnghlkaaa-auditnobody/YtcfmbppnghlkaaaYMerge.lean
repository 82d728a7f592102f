/- Rows of records merged by an agenda: the rows come in. -/
import Derived.Test.YtcfmbppnghlkaaaYMg
import Derived.Test.YtcfmbppnghlkaaaFRound
import Derived.Test.YtcfmbppnghlkaaaFLoop
namespace Go.Proofs.Ytcfmbppnghlkaaa
open Go.RowKit Go.Shelf
attribute [local go_sem] Oper.semAt_some
set_option maxRecDepth 100000

/-- the rows, as merged is given them -/
def RowsAt (w : World) (f : Fam) (ra : Option Addr) : Prop := ∀ i, i < f.K → ∃ g, ra = some ⟨g, 0, none⟩ ∧ w.cell? ⟨g, i, none⟩ = some (f.row i 0)
/-- where the drain stands -/
structure Ys where
  D : List En
  last : Nat
  pos : Nat → Nat
  ix : Nat → Nat
  v : Value
  t : Nat
/-- what is known of it -/
structure Yk (f : Fam) (F : List Rc) (i : Ys) : Prop where
  mg : Mg f f.K i.D i.pos i.ix
  tl : Tld f F i.t i.pos
  la : i.last ≤ f.K + i.t
  nm : ∀ y, y ∈ i.D → y.n ≤ i.last
/-- while they come in -/
structure Mi (f : Fam) (w0 W : World) (p N1 : Nat) (K : Nat) (D : List En) (last : Nat) (ix : Nat → Nat) (Y : Nat → Prop) : Prop where
  ag : Ag (leY f w0) W p D last Y
  nb : Blk W N1 82 [ptr p]
  yn : Y N1
  mg : Mg f K D (fun _ => 0) ix
  la : last = K
set_option maxHeartbeats 4000000 in
theorem merged_k (f : Fam) (F : List Rc) (ra : Option Addr) (cap : Nat) (w : World) (ok : f.Ok F) (hin : f.In w) (hr : RowsAt w f ra) :
    Calls Try.prog 38 #[.slice ra f.K cap] w fun e w' => ∃ v, e = .returned v ∧ w'.ownsRow w.heap.size 38 4 v F.length (encRs F) ∧ Below w.heap.size w w' ∧ (F = [] → v = .slice none 0 0) := by
  have lok := leY_ok ok hin
  have cN := newA (leY f w) w lok (Below.refl _ w)
  have HOK : Hid (f.Ok F) := ok
  have HIN : Hid (f.In w) := hin
  have HR : Hid (RowsAt w f ra) := hr
  have hk := ok.kb
  clear lok ok hin hr
  refine (callsIn_wide (n := 6)).1 ?_
  refine callsIn_of_wp_marks Try.func38 rfl trivial ?_ rfl
  simp only [Try.ntmps38, List.size_toArray, List.length_cons, List.length_nil, Nat.reduceAdd, Nat.reduceSub, Array.replicate_succ, Array.replicate_zero, List.push_toArray, List.append_toArray, List.nil_append, List.cons_append]
  gi_wp2_with fail
  refine ⟨trivial, (callsIn_wide.2 cN).mono ?_⟩
  rintro e w1 ⟨p, rfl, a1, hp, b1⟩
  clear cN
  have q0 := (blk_new w1 [.pointer none] 82).cell (i := 0) rfl
  have qf := (blk_new w1 [.pointer none] 82).fz 0
  have HM3 : Hid (Mi f w (w1.alloc (.cells #[ptr p] 82)) p w1.heap.size 0 [] 0 (fun _ => 0) (fun b => b = w1.heap.size)) :=
    ⟨(a1.box (.cells #[ptr p] 82)).less fun b h => .inr h, blk_new w1 [ptr p] _, rfl, Mg.nil _ _ _, rfl⟩
  have hwN : w.heap.size ≤ w1.heap.size := b1.size
  clear a1 b1
  gi_wp2_with fail
  clear q0 qf
  generalize w1.alloc (.cells #[ptr p] 82) = w3 at *
  generalize w1.heap.size = N1 at *
  gi_loopw [11] (fun i wr => ∃ j : Nat, j ≤ f.K ∧ i = .int .i64 j ∧ Hid (∃ D last ix, Mi f w wr p N1 j D last ix (fun b => b = N1))) (fun i _ => f.K - (intOf i).toNat)
  case atStart => exact ⟨0, Nat.zero_le _, rfl, _, _, _, HM3.out⟩
  case round =>
    obtain ⟨j, hj, rfl, hM⟩ := hrel
    obtain ⟨D, last, ix, M⟩ := hM.out
    have hb := M.ag.j
    have c1 := M.nb.cell (i := 0) rfl
    by_cases hlt : j < f.K
    · obtain ⟨g, rfl, hc⟩ := HR.out j hlt
      have c2 := (hb.cell (p := ⟨g, j, none⟩) (cell_lt hc)).trans hc
      obtain ⟨r, hr0⟩ : ∃ r, (f.rc j)[0]? = some r := by
        have := HOK.out.ne j hlt
        cases hl : f.rc j with
        | nil => exact absurd hl this
        | cons r l => exact ⟨r, rfl⟩
      have cP := pushA M.ag (by have := M.la; omega) r.key (f.row j 0) ⟨j, 0, r, hlt, hr0, rfl, rfl⟩
      have HM : Hid (Mi f w wr p N1 j D last ix (fun b => b = N1) ∧ (f.rc j)[0]? = some r) := ⟨M, hr0⟩
      clear M hM hb hc hr0
      gi_wp2_with fail
      refine ⟨trivial, (callsIn_wide.2 cP).mono ?_⟩
      rintro e w5 ⟨rfl, a5, b5⟩
      have HM5 : Hid (∃ D last ix, Mi f w w5 p N1 (j + 1) D last ix (fun b => b = N1)) :=
        ⟨_, _, _, a5, HM.out.1.nb.but b5 (fun h => h rfl), rfl, HM.out.1.mg.push (fun e he => (HM.out.1.ag.num he).2.1) HM.out.2, by have := HM.out.1.la; omega⟩
      clear cP a5 b5 c1 c2
      gi_wp2_with fail
      go_roundw
      case rel => exact ⟨j + 1, by omega, by go_num, HM5⟩
      case measure => simp [intOf]; omega
    · obtain rfl : j = f.K := by omega
      have HM : Hid (Mi f w wr p N1 f.K D last ix (fun b => b = N1)) := M
      clear M hM hb hlt
      have cD := fun W => eDrain p W
      have hb4 : Below wr.heap.size wr (wr.alloc (.cells #[.slice none 0 0] 23)) := (Below.refl _ wr).alloc (Nat.le_refl _) _
      have c4 := (HM.out.nb.below hb4).cell (i := 0) rfl
      have n4 := blk_new wr [.slice none 0 0] 23
      have a4 := HM.out.ag.box (.cells #[.slice none 0 0] 23)
      have s4 : (wr.alloc (.cells #[.slice none 0 0] 23)).heap.size = wr.heap.size + 1 := by simp
      have hN1 : N1 < wr.heap.size := HM.out.nb.lt
      have hwr : w.heap.size ≤ wr.heap.size := HM.out.ag.j.size
      have M4 : Hid (Ag (leY f w) (wr.alloc (.cells #[.slice none 0 0] 23)) p D last (fun b => b = N1 ∨ b = wr.heap.size) ∧ Blk (wr.alloc (.cells #[.slice none 0 0] 23)) N1 82 [ptr p] ∧ Blk (wr.alloc (.cells #[.slice none 0 0] 23)) wr.heap.size 23 [.slice none 0 0] ∧ Mg f f.K D (fun _ => 0) ix ∧ last = f.K) := ⟨a4, HM.out.nb.below hb4, n4, HM.out.mg, HM.out.la⟩
      clear HM hb4 n4 a4 c1
      gi_wp2_with fail
      refine ⟨trivial, (callsIn_wide.2 (cD _)).mono ?_⟩
      rintro e w5 ⟨rfl, hw5⟩
      clear cD
      rw [s4]
      gi_wp2_with fail
      refine floop rfl feach fun fn X W1 hX hW1 => ?_
      rw [← hw5] at hX hW1 ⊢
      have s5 : w5.heap.size = wr.heap.size + 2 := by rw [hw5]; simp [bx1, s4]
      have b5 : Below (wr.heap.size + 1) (wr.alloc (.cells #[.slice none 0 0] 23)) w5 := by rw [hw5, ← s4]; exact (Below.refl _ _).alloc (Nat.le_refl _) _
      have n5 := blk_new (wr.alloc (.cells #[.slice none 0 0] 23)) [.func (.func 57) #[ptr p] #[]] 97
      have a5 := M4.out.1.box (.cells #[.func (.func 57) #[ptr p] #[]] 97)
      have hw5' : w5 = (wr.alloc (.cells #[.slice none 0 0] 23)).alloc (.cells #[.func (.func 57) #[ptr p] #[]] 97) := hw5
      rw [← hw5', s4] at a5
      rw [s4] at n5
      have n5' : Blk w5 (wr.heap.size + 1) 97 [.func (.func 57) #[ptr p] #[]] := by rw [hw5']; exact n5
      have a6 := a5.box (.deferred (some []))
      have a7 := a6.box X
      have s6 : (w5.alloc (.deferred (some []))).heap.size = w5.heap.size + 1 := by simp
      rw [hW1, s6] at a7
      have b7 : Below w5.heap.size w5 W1 := by rw [← hW1]; exact ((Below.refl _ w5).alloc (Nat.le_refl _) _).alloc (by simp) _
      have hK1 : W1.heap[w5.heap.size]? = some (.deferred (some [])) := by
        rw [← hW1]; exact (Below.heap_alloc _ _ _ (by simp)).trans (World.alloc_heap_new w5 _)
      have hXL : W1.heap[w5.heap.size + 1]? = some X := by
        have := World.alloc_heap_new (w5.alloc (.deferred (some []))) X; rw [World.size_alloc, hW1] at this; exact this
      have hs4 : Below (wr.alloc (.cells #[.slice none 0 0] 23)).heap.size (wr.alloc (.cells #[.slice none 0 0] 23)) w5 := by rw [s4]; exact b5
      have H0 : Md f w W1 p N1 wr.heap.size (wr.heap.size + 1) w5.heap.size X D last (.slice none 0 0) (F.take 0) :=
        ⟨a7.less (fun b hb => (by
            rcases hb with h | h | h | h | h | h
            · exact .inl (.inl (.inl (.inl h)))
            · exact .inl (.inl (.inl (.inr h)))
            · exact .inl (.inl (.inr h))
            · exact .inl (.inr h)
            · exact .inr h
            · cases h)),
          (M4.out.2.1.below hs4).below b7, (M4.out.2.2.1.below hs4).below b7, n5'.below b7, hK1, hXL, World.ownsRow_nil _ _ _ _, by rw [hX]; rfl, fun _ => rfl⟩
      have HI0 : Hid (Md f w W1 p N1 wr.heap.size (wr.heap.size + 1) w5.heap.size X D last (.slice none 0 0) (F.take 0) ∧ Yk f F ⟨D, last, fun _ => 0, ix, .slice none 0 0, 0⟩) :=
        ⟨H0, M4.out.2.2.2.1, Tld.zero HOK.out, by have := M4.out.2.2.2.2; simp only; omega, fun y hy => (H0.ag.num hy).2.1⟩
      clear M4 a5 a6 a7 b5 b7 n5 n5' hK1 hXL hs4 H0 hw5 hw5' c4 s4 hW1
      refine (each_in (ι := Ys) 5 (by omega) (w5.heap.size + 1) (wr.heap.size + 1) p (fun i W => Md f w W p N1 wr.heap.size (wr.heap.size + 1) w5.heap.size X i.D i.last i.v (F.take i.t) ∧ Yk f F i) (fun i => F.length - i.t)
        (fun i x W => ∃ e, (e ∈ i.D ∧ ∀ y, y ∈ i.D → ¬ bef y e) ∧ VV x = e.m ∧ Md f w W p N1 wr.heap.size (wr.heap.size + 1) w5.heap.size X (dropD i.D e.n) i.last i.v (F.take i.t) ∧ Yk f F i)
        (fun W => ∃ la v, Md f w W p N1 wr.heap.size (wr.heap.size + 1) w5.heap.size X [] la v F)
        ?hB ?hP ?hY ⟨D, last, fun _ => 0, ix, .slice none 0 0, 0⟩ W1 HI0.out).mono ?_
      case hB =>
        rintro i W ⟨m, _⟩
        exact m.b3.cell (i := 0) rfl
      case hP =>
        rintro i W ⟨m, k⟩
        by_cases hD : i.D = []
        · have a := m.ag
          rw [hD] at a
          refine (pop0 a).mono ?_
          rintro e W' ⟨rfl, rfl⟩
          refine .inr ⟨rfl, i.last, i.v, ?_⟩
          have mg := k.mg
          rw [hD] at mg m
          rw [k.tl.done mg] at m
          exact m
        · refine (popA m.ag hD).mono ?_
          rintro e W' ⟨en, ⟨he, hb⟩, rfl, a', b'⟩
          obtain ⟨x, hx⟩ := m.ag.1.sh _ _ (m.ag.num he).2.2
          exact .inl ⟨x, en.n, by rw [← hx], en, ⟨he, (hb trivial).2⟩, hx.symm, m.els b' a', k⟩
      case hY =>
        clear HI0 HM3 s5 s6
        rintro i x W ⟨e, he, hx, m, k⟩
        obtain ⟨hi, r, hr, hek, hem⟩ := k.mg.ent e he.1
        obtain ⟨hFt, htl⟩ := k.tl.head HOK.out k.mg he.1 he.2 hr
        have htake : F.take i.t ++ [r] = F.take (i.t + 1) := by
          rw [List.take_add_one, hFt]; rfl
        have HKK : Hid (Yk f F i ∧ e ∈ i.D ∧ (f.rc (ix i.t))[i.pos (ix i.t)]? = (f.rc (ix i.t))[i.pos (ix i.t)]? ∧ Tld f F (i.t + 1) (upd i.pos (i.ix e.n) (i.pos (i.ix e.n) + 1)) ∧ F.take i.t ++ [r] = F.take (i.t + 1) ∧ i.t < F.length) := ⟨k, he.1, rfl, htl, htake, (List.getElem?_eq_some_iff.1 hFt).1⟩
        rw [hx, hem]
        have hjl := (List.getElem?_eq_some_iff.1 hr).1
        have HR5 : Hid ((f.rc (i.ix e.n))[i.pos (i.ix e.n)]? = some r ∧ i.ix e.n < f.K) := ⟨hr, hi⟩
        clear hr hFt htl htake hek hem hx he k
        generalize hio : i.ix e.n = io at *
        generalize hjo : i.pos io = jo at *
        subst hX
        refine ⟨fn, _, _, _, run_yield m.lp rfl, roundIn_of_wpIn trivial ?_⟩
        obtain ⟨Wb, hrun, hLb, hbb⟩ := beginF m.lp rfl
        have mb := m.loop hbb hLb rfl
        have HM6 : Hid (Md f w Wb p N1 wr.heap.size (wr.heap.size + 1) w5.heap.size _ (dropD i.D e.n) i.last i.v (F.take i.t)) := mb
        clear m hLb hbb mb
        unfold Fam.row
        gi_wp2
        refine ⟨Wb, hrun, ?_⟩
        clear hrun
        gi_wp2_with fail
        have hmix : Try.prog.follows .mixedOrders = true := by kernel_rfl
        have hIn := HIN.out.below HM6.out.j
        have k0 : Wb.cell? ⟨f.B io, 4 * jo, none⟩ = some (.int .i64 r.t) := hIn io HR5.out.2 jo r HR5.out.1 0 _ rfl
        have k1 := hIn io HR5.out.2 jo r HR5.out.1 1 _ rfl
        have k2 := hIn io HR5.out.2 jo r HR5.out.1 2 _ rfl
        have k3 := hIn io HR5.out.2 jo r HR5.out.1 3 _ rfl
        have mD := HM6.out.below (Below.refl _ Wb).drew
        have hlF := HOK.out.lb
        have hlT : (F.take i.t).length ≤ F.length := by rw [List.length_take]; omega
        have hlj : 0 < (f.rc io).length - jo := by omega
        obtain ⟨v', W2, hrun, hown, hgrow, hloc⟩ := ysnoc w.heap.size i.v (F.take i.t).length (encRs (F.take i.t)) r Wb.drew mD.ow (by omega) mD.j.size
        have m3 := mD.snoc r hown hgrow hloc
        have HM7 : Hid (Md f w (W2.setCell ⟨wr.heap.size, 0, none⟩ v') p N1 wr.heap.size (wr.heap.size + 1) w5.heap.size _ (dropD i.D e.n) i.last v' (F.take (i.t + 1))) := HKK.out.2.2.2.2.1 ▸ m3
        obtain ⟨g', cap', hv'⟩ := ownsRow_succ hown
        have hc2 : ∃ u, W2.cell? ⟨wr.heap.size, 0, none⟩ = some u ∧ W2.frozen? ⟨wr.heap.size, 0, none⟩ = false := by
          have hb2 : Blk W2 wr.heap.size 23 [i.v] := mD.b2.same ((hgrow.block _ (Nat.lt_of_lt_of_le mD.b2.lt (by rw [World.size_alloc]; exact Nat.le_succ _)) (Ne.symm mD.ne.2.2.2.2.2.2.2.1)).trans (Below.heap_alloc _ _ _ mD.b2.lt))
          exact ⟨_, hb2.cell (i := 0) rfl, hb2.fz 0⟩
        obtain ⟨u2, hc2, hf2⟩ := hc2
        have hl0 : ∀ W', W' = Wb.drew ∨ W' = Wb.drew.alloc (.cells (encR r).toArray 38) → W'.cell? ⟨wr.heap.size, 0, none⟩ = some i.v := by
          rintro W' (rfl | rfl)
          · exact mD.b2.cell (i := 0) rfl
          · exact (mD.b2.below ((Below.refl _ _).alloc (Nat.le_refl _) _)).cell (i := 0) rfl
        obtain ⟨va, vl, vc, hiv⟩ : ∃ va vl vc, i.v = .slice va vl vc := by
          rcases mD.ow.2 with ⟨h, _⟩ | ⟨_, _, _, h, _⟩
          · exact ⟨_, _, _, h⟩
          · exact ⟨_, _, _, h⟩
        rw [hiv] at hl0 hrun
        clear hown hgrow hloc m3 mD hIn hiv
        subst hv'
        refine wpIn_region_any hmix ?_
        refine round_app2 (F := Fence.wide.inRound (w5.heap.size + 1)) (n := 5 - 1) (P := Try.prog) (tl := 6) (tr := 7) (d0 := 22) (d1 := 23) (d2 := 24) (d3 := 25) (d4 := 26) (d5 := 27) (vl := .slice va vl vc) (vr := .slice (some ⟨f.B io, 4 * jo, none⟩) ((f.rc io).length - jo) (f.C io - jo)) (v1 := .slice (some ⟨f.B io, 4 * jo, none⟩) ((f.rc io).length - jo) (f.C io - jo)) (v2 := .pointer (some ⟨f.B io, 4 * jo, none⟩)) (v3 := recV r) (v4 := .slice (some ⟨Wb.drew.heap.size, 0, none⟩) 1 1) (v5 := .slice (some ⟨g', 0, none⟩) ((F.take i.t).length + 1) cap') (pl := .pointer (some ⟨wr.heap.size, 0, none⟩))
          (w' := Wb.drew.alloc (.cells (encR r).toArray 38)) (W2 := W2) (W3 := W2.setCell ⟨wr.heap.size, 0, none⟩ (.slice (some ⟨g', 0, none⟩) ((F.take i.t).length + 1) cap')) (fun _ => trivial)
          rfl rfl rfl rfl rfl rfl rfl rfl rfl rfl rfl rfl rfl rfl (fun _ h => by cases h) (fun _ h => by cases h) (fun _ h => by cases h) (fun _ h => by cases h) (fun _ h => by cases h) (fun _ h => by cases h) (fun _ h => by cases h)
          rfl rfl rfl rfl rfl rfl rfl (by kernel_rfl) (by kernel_rfl) (by kernel_rfl) (by kernel_rfl) (by kernel_rfl) (by kernel_rfl) (by kernel_rfl) (by kernel_rfl) (by kernel_rfl) (by kernel_rfl) (by kernel_rfl) (by kernel_rfl)
          (by simp) (by decide) rfl rfl ?x0 ?x1 ?x2 ?x3 ?x4 ?x5 ?x6 ?hQ
        case x0 =>
          intro b W' hb hW'
          have hcell := hl0 W' hW'
          clear hW'
          go_simp
        case x1 => intro b hb; go_simp
        case x2 =>
          intro b hb
          have hl1 : ¬ (f.rc io).length - jo = 0 := by omega
          go_simp
        case x3 => intro b hb; go_simp
        case x4 => intro b hb; go_simp; rfl
        case x5 =>
          intro b h0 h4
          have hrun := hrun
          rw [show Wb.drew.heap.size = Wb.heap.size from rfl] at hrun h4
          simp only [List.length_take] at hrun
          simp [execOp, resolve, invoke, builtin, reval h0, reval h4, hrun, Result.andThen]
        case x6 =>
          intro b h1 h5
          go_simp
        case hQ =>
          clear hrun hl0 hc2 hf2 k0 k1 k2 k3 hlF
          generalize W2.setCell ⟨wr.heap.size, 0, none⟩ (.slice (some ⟨g', 0, none⟩) ((F.take i.t).length + 1) cap') = W3 at *
          generalize (Value.slice (some ⟨g', 0, none⟩) ((F.take i.t).length + 1) cap') = v' at *
          have c1 : W3.cell? ⟨N1, 0, none⟩ = some (ptr p) := HM7.out.b1.cell (i := 0) rfl
          have hlE : w5.heap.size + 1 < W3.heap.size := (Array.getElem?_eq_some_iff.1 HM7.out.lp).1
          by_cases hmore : jo + 1 < (f.rc io).length
          · have hgt : (1 : Int) < (((f.rc io).length - jo : Nat) : Int) := by omega
            obtain ⟨r2, hr2⟩ : ∃ r2, (f.rc io)[jo + 1]? = some r2 := ⟨_, List.getElem?_eq_getElem hmore⟩
            have mD := HM7.out.below (Below.refl _ W3).drew
            have hla := HKK.out.1.la
            have hkt := HKK.out.2.2.2.2.2
            have hlb := HOK.out.lb
            have cP := pushA mD.ag (by omega) r2.key (f.row io (jo + 1)) ⟨io, jo + 1, r2, HR5.out.2, hr2, rfl, rfl⟩
            gi_wp2_with fail
            refine wpIn_region_any hmix ?_
            refine round_push2 (F := Fence.wide.inRound (w5.heap.size + 1)) (n := 5 - 1) (P := Try.prog) (tl := 3) (tr := 7) (d0 := 31) (d1 := 32) (d2 := 33) (d3 := 34) (vl := ptr p) (vr := .slice (some ⟨f.B io, 4 * jo, none⟩) ((f.rc io).length - jo) (f.C io - jo)) (v1 := .slice (some ⟨f.B io, 4 * jo, none⟩) ((f.rc io).length - jo) (f.C io - jo)) (v2 := f.row io (jo + 1)) (pl := .pointer (some ⟨N1, 0, none⟩)) (fun _ => trivial) rfl
              rfl rfl rfl rfl rfl rfl rfl rfl (fun _ h => by cases h) (fun _ h => by cases h) (fun _ h => by cases h) (fun _ h => by cases h)
              rfl rfl rfl rfl (by kernel_rfl) (by kernel_rfl) (by kernel_rfl) (by kernel_rfl) (by kernel_rfl) (by kernel_rfl) (by kernel_rfl)
              (by simp) (by decide) rfl rfl ?x0 ?x1 ?x2 47 (fun v w'' => (∃ n : Nat, v = .tuple #[.int .i64 (n : Int), .int .i64 0]) ∧ Ag (leY f w) w'' p (dropD i.D e.n ++ [⟨r2.key, f.row io (jo + 1), i.last + 1⟩]) (i.last + 1) (mY N1 wr.heap.size (wr.heap.size + 1) w5.heap.size v') ∧ But (Els (mY N1 wr.heap.size (wr.heap.size + 1) w5.heap.size v')) W3.drew w'') ?x3 ?c3 ?hQ2
            case x0 => intro b hb; clear cP mD; go_simp
            case x1 => intro b hb; clear cP mD; go_simp
            case x2 =>
              intro b hb
              clear cP mD
              have hs1 : (1 : Int).toNat = 1 := rfl
              unfold Fam.row
              go_simp
              have hcb := HOK.out.cb io HR5.out.2
              rw [if_pos (by omega), if_neg (by omega), show 4 * jo + 4 = 4 * (jo + 1) by omega, Nat.sub_sub, Nat.sub_sub]
            case x3 => intro b h0 h2; clear cP mD; go_simp
            case c3 =>
              refine (CallsIn.inRound _ (callsIn_wide.2 cP)).mono ?_
              rintro e' w'' ⟨rfl, ha, hb⟩
              exact ⟨_, rfl, ⟨_, rfl⟩, ha, hb⟩
            case hQ2 =>
              rintro v9 W9 ⟨⟨n9, rfl⟩, ha, hb⟩
              have HM9 : Hid (Md f w W9 p N1 wr.heap.size (wr.heap.size + 1) w5.heap.size _ (dropD i.D e.n ++ [⟨r2.key, f.row io (jo + 1), i.last + 1⟩]) (i.last + 1) v' (F.take (i.t + 1))) := mD.els hb ha
              clear cP mD ha hb c1
              gi_wp2_with fail
              obtain ⟨We, hre, hLe, hbe⟩ := endF HM9.out.lp
              have k := HKK.out.1
              refine ⟨_, We, hre, rfl, ⟨dropD i.D e.n ++ [⟨r2.key, f.row io (jo + 1), i.last + 1⟩], i.last + 1, upd i.pos io (jo + 1), upd i.ix (i.last + 1) io, v', i.t + 1⟩, ⟨HM9.out.loop hbe hLe rfl, ⟨?_, HKK.out.2.2.2.1, by simp only; omega, fun y hy => ?_⟩⟩, by simp only; omega⟩
              · have h := k.mg.next HKK.out.2.1 k.nm (r := r2) (by rw [hio, hjo]; exact hr2)
                rw [hio, hjo] at h
                exact h
              · rcases List.mem_append.1 hy with hy | hy
                · exact Nat.le_succ_of_le (k.nm y (mem_drop.1 hy).1)
                · simp at hy; rw [hy]; exact Nat.le_refl _
          · have hgt : ¬ (1 : Int) < (((f.rc io).length - jo : Nat) : Int) := by omega
            clear c1
            gi_wp2_with fail
            obtain ⟨We, hre, hLe, hbe⟩ := endF HM7.out.lp
            have k := HKK.out.1
            have hla := k.la
            have hkt := HKK.out.2.2.2.2.2
            refine ⟨_, We, hre, rfl, ⟨dropD i.D e.n, i.last, upd i.pos io (jo + 1), i.ix, v', i.t + 1⟩, ⟨HM7.out.loop hbe hLe rfl, ⟨?_, HKK.out.2.2.2.1, by simp only; omega, fun y hy => k.nm y (mem_drop.1 hy).1⟩⟩, by simp only; omega⟩
            have h := k.mg.last HKK.out.2.1 (by rw [hio, hjo]; omega)
            rw [hio, hjo] at h
            exact h
      rintro e w' ⟨⟨v0, rfl⟩, la, v, m⟩
      subst hX
      have hN := m.ne
      obtain ⟨W5, hrun, hb5⟩ : ∃ W5, (Instr.endLoop (w5.heap.size + 1)).run Try.prog w' = .ok none W5 ∧ But (fun b => b = w5.heap.size + 1) w' W5 :=
        ⟨_, run_endLoop m.lp (by simp), ⟨rfl, rfl, rfl, by simp [World.putObj], fun b _ hb => World.putObj_heap_other hb⟩⟩
      refine ⟨none, W5, hrun, ?_⟩
      have k5 : W5.heap[w5.heap.size]? = some (.deferred (some [])) := (hb5.block _ (Array.getElem?_eq_some_iff.1 m.df).1 (by omega)).trans m.df
      have c5 := (m.b2.but hb5 hN.2.2.2.1).cell (i := 0) rfl
      have ow5 := eown_block m.ow fun b hb => hb5.block b (m.ow.lt b hb).2 (fun h => hN.2.2.2.2.2.2.2.2.2.2 (h ▸ hb))
      have hz := m.z
      have hv : v.ownBlock ≠ some w5.heap.size := hN.2.2.2.2.2.2.2.2.2.1
      have bb : Below w.heap.size w W5 := m.ag.1.st _ _ m.ag.j (hb5.mono fun b h hx => by subst h; simp only at hx; omega)
      have HE : Hid (W5.heap[w5.heap.size]? = some (.deferred (some [])) ∧ World.ownsRow W5 w.heap.size 38 4 v F.length (encRs F) ∧ v.ownBlock ≠ some w5.heap.size ∧ Below w.heap.size w W5 ∧ w.heap.size ≤ w5.heap.size ∧ (F = [] → v = .slice none 0 0)) := ⟨k5, ow5, hv, bb, by omega, hz⟩
      obtain ⟨va, vl, vc, hiv⟩ : ∃ va vl vc, v = .slice va vl vc := by
        rcases ow5.2 with ⟨h, _⟩ | ⟨_, _, _, h, _⟩
        · exact ⟨_, _, _, h⟩
        · exact ⟨_, _, _, h⟩
      rw [hiv] at c5
      clear hrun m hN hb5 k5 ow5 hv hz bb s5 s6 HI0 HM3
      gi_wp2
      obtain ⟨k5, ow5, hv, bb, hsz, hz⟩ := HE.out
      refine ⟨by simp, .inl ⟨_, _, rfl, run_takeDeferred k5, ?_⟩⟩
      refine ⟨_, results_tmp rfl _ _ _, v, by rw [hiv]; rfl, ?_, ?_, hz⟩
      · exact eown_block ow5 fun b hb => World.putObj_heap_other (by rintro rfl; exact hv hb)
      · exact ⟨bb.os, bb.tape, bb.output, by simp [World.putObj]; exact bb.size, fun b hb => (World.putObj_heap_other (by omega)).trans (bb.block b hb)⟩
end Go.Proofs.Ytcfmbppnghlkaaa
