/- The document's Publish. -/
import Derived.Test.YtimmjhegeagofabUReg
import Derived.Test.YtimmjhegeagofabURefP
import Derived.Test.YtimmjhegeagofabUPub
namespace Go.Proofs.Ytimmjhegeagofab
open Go.RowKit
set_option maxRecDepth 100000

theorem pub_cells {ls : List PLn} {V : Nat → Value} {j : Nat} {x : PLn} (hx : atP ls j = x) (hj : j < ls.length) (i e : Nat) (he : e < 6) : encLs ls V i e = encLs (ls.set j (pubL x)) V i e := by
  unfold encLs
  rw [atP_set hj]
  by_cases h : i = j
  · subst h
    rw [if_pos rfl, hx]
    match e, he with
    | 0, _ => rfl
    | 1, _ => rfl
    | 2, _ => rfl
    | 3, _ => rfl
    | 4, _ => rfl
    | 5, _ => rfl
  · rw [if_neg h]
theorem msg_snoc2 {l : List PMs} {y : PMs} {xs : List Value} (hl : xs.length = l.length * 4) (hxs : ∀ i, i < l.length → ∀ f, f < 4 → xs[i * 4 + f]? = some (encMs l i f)) : ∀ i, i < l.length + 1 → ∀ f, f < 4 → (xs ++ cellsL 1 4 (fun _ => encM y))[i * 4 + f]? = some (encMs (l ++ [y]) i f) := by
  intro i hi f hf
  by_cases h : i < l.length
  · rw [List.getElem?_append_left (by rw [hl]; exact mul_lt_of h hf), hxs i h f hf]
    unfold encMs
    congr 2
    simp [atM, List.getElem?_append_left h]
  · obtain rfl : i = l.length := by omega
    rw [List.getElem?_append_right (by omega), hl, Nat.add_sub_cancel_left]
    have := cellsL_at (n := 1) (s := 4) (c := fun _ => encM y) (j := 0) (f := f) (by omega) hf
    rw [Nat.zero_mul, Nat.zero_add] at this
    rw [this]
    unfold encMs
    congr 2
    simp [atM]
set_option maxHeartbeats 8000000 in
theorem rpublish_any (vl vm : Value) (Q : Qu) (V : Nat → Value) (ln n ep pay : Int) (w : World) (hms : Q.ms.length + 1 ≤ 1000) (ho : OkQ Q) (hq : QIs w vl vm Q V) : Calls Try.prog 13 #[quV vl vm, clV ln n ep, .int .u64 pay] w fun e w' =>
    ∃ ul um V', e = .returned (.tuple #[quV ul um, .int .i64 (Q.pbE ln n ep)]) ∧ QIs w' ul um (Q.pbQ ln n ep pay) V' ∧ Below w.heap.size w w' ∧ QNew w.heap.size ul um (Q.pbQ ln n ep pay) V' := by
  have hsk := fun W h1 => rasked_any vl vm Q V ln W ho h1
  have hpl := fun W h1 => rplace_any vl vm Q V ln n ep W ho h1
  have how := fun W h1 => rown_any vl vm Q V W ho h1
  have HQ : Hid (QIs w vl vm Q V) := hq
  have HO : Hid (OkQ Q) := ho
  obtain ⟨la, lc, rfl, _, _, hlr⟩ := hq.l
  obtain ⟨ma, mc, rfl, _, _, hmr⟩ := hq.m
  clear hlr hmr hq ho
  obtain ⟨k1, k2, k3, b2, s2⟩ := alloc3 w [.slice la Q.ls.length lc, .slice ma Q.ms.length mc] 25 [.int .i64 ln, .int .i64 n, .int .i64 ep] 27 [.slice none 0 0, .slice none 0 0] 25
  have K1 : Hid (Blk _ _ _ _) := k1
  have K2 : Hid (Blk _ _ _ _) := k2
  have K3 : Hid (Blk _ _ _ _) := k3
  have B2 : Hid (Below _ _ _) := b2
  clear k1 k2 k3 b2 s2
  by_cases hE : Q.nam ln = 0
  · obtain ⟨hok, hH⟩ := nam_zero hE
    have HNM : Hid (Q.nam ln = 0) := hE
    have HHB : Hid (Q.hasB ln = true) := hH
    simp only [hE] at hsk
    clear hE hok hH
    go_enter Try.func13, Try.ntmps13
    go_wp2_with fail
    generalize ((w.alloc (.cells #[.slice la Q.ls.length lc, .slice ma Q.ms.length mc] 25)).alloc (.cells #[.int .i64 ln, .int .i64 n, .int .i64 ep] 27)).alloc (.cells #[.slice none 0 0, .slice none 0 0] 25) = w2 at *
    obtain ⟨r0, r1, r2⟩ := K2.out.bx.three
    refine (hsk _ (HQ.out.below B2.out)).mono ?_
    rintro e w3 ⟨rfl, hb⟩
    obtain ⟨q0, q1⟩ := (K1.out.below hb).bx.two
    obtain ⟨r0, r1, r2⟩ := (K2.out.below hb).bx.three
    have K1b : Hid (Blk w3 _ _ _) := K1.out.below hb
    have K2b : Hid (Blk w3 _ _ _) := K2.out.below hb
    have K3b : Hid (Blk w3 _ _ _) := K3.out.below hb
    have B3 : Hid (Below w.heap.size w w3) := Below.onto B2.out hb
    have HC12 : Hid (w.heap.size < w.heap.size + 1 ∧ w.heap.size + 1 < w.heap.size + 1 + 1) := ⟨by omega, by omega⟩
    have HL2 : Hid (w.heap.size ≤ w.heap.size + 1 + 1) := by show _ ≤ _; omega
    clear hb
    generalize w.heap.size + 1 + 1 = C2 at *
    generalize w.heap.size + 1 = C1 at *
    go_wp2_with fail
    refine (hpl _ (HQ.out.below B3.out)).mono ?_
    rintro e w3b ⟨r, rfl, hr, hb⟩
    obtain ⟨q0, q1⟩ := (K1b.out.below hb).bx.two
    obtain ⟨r0, r1, r2⟩ := (K2b.out.below hb).bx.three
    obtain ⟨p0, p1⟩ := (K3b.out.below hb).bx.two
    have p2 := (K3b.out.below hb).fz
    have K1c : Hid (Blk w3b _ _ _) := K1b.out.below hb
    have K2c : Hid (Blk w3b _ _ _) := K2b.out.below hb
    have K3c : Hid (Blk w3b _ _ _) := K3b.out.below hb
    have B3b : Hid (Below w.heap.size w w3b) := Below.onto B3.out hb
    have HR : Hid (Plc Q ln n ep r) := hr
    clear hb hr
    by_cases h0 : r < 0
    · have HE : Hid (Q.pbE ln n ep = 102) := by
        show _ = _
        rcases HR.out with ⟨h1, h2⟩ | ⟨h1, h2, h3, h4⟩
        · refine pbE_not HNM.out ?_
          rw [HHB.out] at h1
          simpa using h1
        · omega
      have HP : Hid (Q.pbQ ln n ep pay = qu0) := by show _ = _; rw [Qu.pbQ, HE.out, if_neg (by decide)]
      go_wp2_with fail
      refine bodyPost_ret (v := .tuple #[quV (.slice none 0 0) (.slice none 0 0), .int .i64 102]) (by simp [results, Try.results13, go_sem, p0, p1]) rfl ⟨.slice none 0 0, .slice none 0 0, fun _ => .slice none 0 0, by rw [HE.out], by rw [HP.out]; exact qis0 _, ?_, by rw [HP.out]; exact qnew0 _⟩
      repeat (first | (with_reducible exact B3b.out) | ((with_reducible refine Below.setCell ?_ ?_ _); rotate_left; first | exact HL2.out))
    · obtain ⟨h1, h2, h3, h4⟩ : Q.hasB ln = true ∧ opn (Q.lane ln) n ep = true ∧ 0 ≤ r ∧ (r = 0 ↔ atI (Q.lane ln).cl 0 = n) := by
        rcases HR.out with ⟨h1, h2⟩ | h
        · omega
        · exact h
      by_cases h5 : 0 < r
      · have HE : Hid (Q.pbE ln n ep = 103) := by show _ = _; rw [pbE_in HNM.out h2, if_neg (fun h => by have := h4.2 h; omega)]
        have HP : Hid (Q.pbQ ln n ep pay = qu0) := by show _ = _; rw [Qu.pbQ, HE.out, if_neg (by decide)]
        clear h1 h2 h4
        go_wp2_with fail
        refine bodyPost_ret (v := .tuple #[quV (.slice none 0 0) (.slice none 0 0), .int .i64 103]) (by simp [results, Try.results13, go_sem, p0, p1]) rfl ⟨.slice none 0 0, .slice none 0 0, fun _ => .slice none 0 0, by rw [HE.out], by rw [HP.out]; exact qis0 _, ?_, by rw [HP.out]; exact qnew0 _⟩
        repeat (first | (with_reducible exact B3b.out) | ((with_reducible refine Below.setCell ?_ ?_ _); rotate_left; first | exact HL2.out))
      · obtain rfl : r = 0 := by omega
        have HE : Hid (Q.pbE ln n ep = 0) := by show _ = _; rw [pbE_in HNM.out h2, if_pos (h4.1 rfl)]
        obtain ⟨j, rfl, hjn⟩ : ∃ j : Nat, ln = (j : Int) ∧ j < Q.ls.length := by
          simp [Qu.hasB] at h1
          exact ⟨ln.toNat, by omega, by omega⟩
        have hlane : Q.lane (j : Int) = atP Q.ls j := by simp [Qu.lane]
        have HP : Hid (Q.pbQ (j : Int) n ep pay = ⟨Q.ls.set j (pubL (atP Q.ls j)), Q.ms ++ [⟨(j : Int), ep, n, pay⟩]⟩) := by show _ = _; rw [Qu.pbQ, if_pos HE.out, hlane]; rfl
        rw [hlane] at h2
        obtain ⟨k, hlen⟩ : ∃ k, (atP Q.ls j).cl.length = k + 1 := by
          cases h : (atP Q.ls j).cl with
          | nil => simp [opn, h] at h2
          | cons a l => exact ⟨l.length, rfl⟩
        have hnc := HO.out.nc j hjn
        have j1 : (0 : Int) ≤ (j : Int) := by omega
        have j2 : (j : Int) < (Q.ls.length : Int) := by omega
        clear h1 h2 h3 h4 h5 h0 hlane
        go_wp2_with fail
        refine (how _ (HQ.out.below B3b.out)).mono ?_
        rintro e w4 ⟨ul, um, V', rfl, how4, hb4⟩
        have HOW : Hid (Owned w4 w3b.heap.size ul um Q V') := how4
        have HB4 : Hid (Below w3b.heap.size w3b w4) := hb4
        have hq4 := how4.qis
        have hco := how4.c j hjn
        obtain ⟨bl, ol, lc', ca, cc, rfl, hV, _⟩ := hq4.at hjn
        obtain ⟨ma', mc', rfl, _⟩ := hq4.m
        rw [hV] at hco
        generalize hx : atP Q.ls j = x at *
        have HXJ : Hid (atP Q.ls j = x) := hx
        have HVJ : Hid (V' j = _) := hV
        obtain ⟨ys, o3, o4⟩ := hco
        obtain ⟨g, rfl, hkc⟩ : ∃ g, ca = some ⟨g, 0, none⟩ ∧ x.cl.length ≤ cc := by
          rcases o3.2 with ⟨e1, e2⟩ | ⟨g, cap, cur, e1, _, _, h6, _⟩
          · injection e1 with _ e3
            omega
          · injection e1 with e3 e4 e5
            exact ⟨g, e3, by rw [e5]; exact h6⟩
        obtain ⟨k5, b5, s5⟩ := alloc1 w4 [(.slice (some ⟨bl, ol, none⟩) Q.ls.length lc'), (.slice ma' Q.ms.length mc')] 25
        have K5 : Hid (Blk _ _ _ _) := k5
        have B45 : Hid (Below w4.heap.size w4 _) := b5
        have S5 : Hid (_ = _) := s5
        have z34 := hb4.size
        have K1d : Hid (Blk w4 _ _ _) := K1c.out.below hb4
        have K2d : Hid (Blk w4 _ _ _) := K2c.out.below hb4
        have K3d : Hid (Blk w4 _ _ _) := K3c.out.below hb4
        have zb : bl < w4.heap.size := by
          obtain ⟨xs, o1, _⟩ := how4.l
          exact own_lt o1 rfl
        have HCL4 : Hid (Cl w4 (.slice (some ⟨g, 0, none⟩) x.cl.length cc) x.cl) := by
          have := hq4.c j hjn
          rw [hV, hx] at this
          exact this
        have HL34 : Hid (w4.cell? ⟨bl, ol + j * 6 + 3, none⟩ = some (.slice (some ⟨g, 0, none⟩) x.cl.length cc) ∧ ∀ i, w4.frozen? ⟨bl, i, none⟩ = false) := by
          obtain ⟨_, _, _, _, _, e1, e2, _, _, _, l3, _⟩ := hq4.at hjn
          injection e1 with e1
          injection e1 with e1
          injection e1 with e3 e4
          rw [← e3, ← e4, ← e2, hV] at l3
          refine ⟨l3, fun i => ?_⟩
          obtain ⟨xs, o1, _⟩ := how4.l
          rcases o1.2 with ⟨e1, _⟩ | ⟨g, cap, cur, e1, _, h2, _⟩
          · cases e1
          · injection e1 with e1
            injection e1 with e1
            have e2 : bl = g := congrArg Addr.block e1
            rw [e2]
            exact frozen_of_row _ _ _ _ _ h2
        clear how how4 hb4 hq4 k5 b5 s5 hx hV o3 o4 ys q0 q1 r0 r1 r2 p0 p1 p2
        go_wp2_with fail
        generalize w4.alloc (.cells #[(.slice (some ⟨bl, ol, none⟩) Q.ls.length lc'), (.slice ma' Q.ms.length mc')] 25) = w5 at *
        have HZ : Hid (w.heap.size < w3b.heap.size ∧ C1 < w3b.heap.size ∧ C2 < w3b.heap.size ∧ w5.heap.size = w4.heap.size + 1) := ⟨K1c.out.lt, K2c.out.lt, K3c.out.lt, S5.out⟩
        have hzz := HZ.out
        have K2e : Hid (Blk w5 _ _ _) := K2d.out.below B45.out
        have K5e : Hid (Blk w5 _ _ _) := K5.out
        obtain ⟨r0, r1, r2⟩ := K2e.out.bx.three
        obtain ⟨x0, x1⟩ := K5e.out.bx.two
        have z1 := K2e.out.lt
        have z2 := K5e.out.lt
        have z3 : bl < w5.heap.size := by omega
        have HCL : Hid (Sl w5 1 x.cl.length (encI x.cl) (.slice (some ⟨g, 0, none⟩) x.cl.length cc)) := HCL4.out.below B45.out
        have HL3 : Hid (∀ W, Below w5.heap.size w5 W → W.cell? ⟨bl, ol + j * 6 + 3, none⟩ = some (.slice (some ⟨g, 0, none⟩) x.cl.length cc)) := fun W hW => (Below.onto B45.out hW).cell (p := ⟨bl, ol + j * 6 + 3, none⟩) zb |>.trans HL34.out.1
        have HL6 : Hid (∀ W, Below w5.heap.size w5 W → W.frozen? ⟨bl, ol + j * 6 + 3, none⟩ = false) := fun W hW => by
          have h := HL34.out.2 (ol + j * 6 + 3)
          have hb := (Below.onto B45.out hW).block bl zb
          unfold World.frozen? at h ⊢
          rw [hb]
          exact h
        have l3 := HL3.out w5 (Below.refl _ _)
        have hown := gown_0 w5.drew w5.heap.size 3 1 (by simp)
        rw [show w5.drew.heap.size = w5.heap.size from by simp] at hown
        have bd : Below w5.heap.size w5 (w5.drew.alloc (.cells #[] 3)) := Below.onto ((Below.refl _ _).drew) (below_new _ _)
        have HOWN : Hid (World.ownsRow _ _ _ _ _ _ _) := hown
        have HBS : Hid (w5.heap.size ≤ (w5.drew.alloc (.cells #[] 3)).heap.size) := bd.size
        have HGB : Hid (∀ w', World.grownBy (w5.drew.alloc (.cells #[] 3)) w' (Value.slice (some ⟨w5.heap.size, 0, none⟩) 0 0).ownBlock → Below w5.heap.size w5 w') := fun w' hg => bd.trans (grown_below hg bd.size fun g e => own_blk hown g e)
        have hlen1 : 0 + (x.cl.length - 1) ≤ 1000000 := by omega
        have hm1 : (0 : Int) < (x.cl.length : Int) := by omega
        have HLEN : Hid (x.cl.length = k + 1) := hlen
        have hm2 : 1 ≤ x.cl.length := by omega
        have hm3 : (1 : Int) ≤ (x.cl.length : Int) := by omega
        have HKC : Hid (x.cl.length ≤ cc) := hkc
        clear hown hzz hlen hkc
        have HSRC : Hid (Src w5 (.slice (if cc = 1 then some ⟨g, 0, none⟩ else some ⟨g, 1, none⟩) (x.cl.length - 1) (cc - 1)) (x.cl.length - 1) (cellsL (x.cl.length - 1) 1 fun i => encI x.cl (i + 1))) := by
          have hcl := HCL.out
          obtain ⟨_, _, e1, _, _, hr⟩ := hcl
          cases e1
          by_cases hcc : cc = 1
          · rw [if_pos hcc]
            refine .inr ⟨g, 0, _, rfl, fun i y hi => ?_⟩
            have h1 := (List.getElem?_eq_some_iff.1 hi).1
            rw [cellsL_len] at h1
            have := HKC.out
            omega
          · rw [if_neg hcc]
            refine .inr ⟨g, 1, _, rfl, fun i y hi => ?_⟩
            refine cellsL_src (fun i hi f hf => ?_) hi
            obtain ⟨b', off', e', hc'⟩ := hr (i + 1) (by omega)
            cases e'
            have := hc' f hf
            rw [show (1 : Nat) + i * 1 + f = 0 + (i + 1) * 1 + f by omega]
            exact this
        have HFZ : Hid (∀ W, Below w5.heap.size w5 W → W.frozen? ⟨bl, ol + j * 6 + 3, none⟩ = false) := HL6.out
        clear bd HGB HBS HOWN
        refine pub_region (D := w4.heap.size) (C := C1) (bl := bl) (ol := ol) (N := Q.ls.length) (lc := lc') (j := j) (g := g) (m := x.cl.length) (cc := cc) (xs1 := cellsL (x.cl.length - 1) 1 fun i => encI x.cl (i + 1)) rfl rfl (by kernel_rfl) (by kernel_rfl) (by kernel_rfl) rfl rfl rfl rfl rfl rfl rfl rfl rfl rfl rfl rfl rfl rfl rfl rfl rfl rfl rfl rfl rfl rfl rfl rfl rfl rfl rfl rfl rfl rfl rfl rfl rfl rfl rfl rfl rfl rfl rfl x0 r0 l3 HFZ.out hjn hm2 HSRC.out (cellsL_len _ _ _) (cellsL_mem (by decide) fun _ _ _ _ => rfl) hnc (by kernel_rfl) (by kernel_rfl) (by kernel_rfl) (fun _ _ d _ _ h => by cases d <;> exact h) ?_
        intro vA ua uc w7 h7 b57
        have hzz := HZ.out
        have hne : ¬ w4.heap.size = bl := by omega
        have hne1 : ¬ C1 = bl := by
          obtain ⟨xs, o1, _⟩ := HOW.out.l
          have := own_blk o1 bl rfl
          omega
        have hne2 : ¬ C2 = bl := by
          obtain ⟨xs, o1, _⟩ := HOW.out.l
          have := own_blk o1 bl rfl
          omega
        have hblm : ∀ b, (Value.slice ma' Q.ms.length mc').ownBlock = some b → ¬ b = bl := fun b e1 e2 => by
          obtain ⟨xs, o1, _⟩ := HOW.out.l
          obtain ⟨zs, o2, _⟩ := HOW.out.m
          subst e2
          exact own_two o1 o2 (by decide) b rfl e1
        have B47 : Below w4.heap.size w4 w7 := Below.onto B45.out b57
        have K5f : Hid (Blk (w7.setCell ⟨bl, ol + j * 6 + 3, none⟩ (.slice ua (x.cl.length - 1) uc)) w4.heap.size _ _) := (K5e.out.below b57).setO hne _
        have K2f : Hid (Blk (w7.setCell ⟨bl, ol + j * 6 + 3, none⟩ (.slice ua (x.cl.length - 1) uc)) C1 _ _) := (K2e.out.below b57).setO hne1 _
        have K3f : Hid (Blk (w7.setCell ⟨bl, ol + j * 6 + 3, none⟩ (.slice ua (x.cl.length - 1) uc)) C2 _ _) := (K3d.out.below B47).setO hne2 _
        have HM8 : Hid (∃ zs, World.ownsRow (w7.setCell ⟨bl, ol + j * 6 + 3, none⟩ (.slice ua (x.cl.length - 1) uc)) w3b.heap.size 40 4 (Value.slice ma' Q.ms.length mc') Q.ms.length zs ∧ ∀ i, i < Q.ms.length → ∀ f, f < 4 → zs[i * 4 + f]? = some (encMs Q.ms i f)) := by
          obtain ⟨zs, o2, o3⟩ := HOW.out.m
          exact ⟨zs, own_set (own_below o2 B47) fun e => hblm bl e rfl, o3⟩
        have HC8 : Hid (∀ i, i < Q.ls.length → ¬ i = j → ∃ zs, World.ownsRow (w7.setCell ⟨bl, ol + j * 6 + 3, none⟩ (.slice ua (x.cl.length - 1) uc)) w3b.heap.size 3 1 (V' i) (atP Q.ls i).cl.length zs ∧ (∀ b, (V' i).ownBlock = some b → b < w4.heap.size) ∧ ∀ i2, i2 < (atP Q.ls i).cl.length → zs[i2]? = some (.int .i64 (atI (atP Q.ls i).cl i2))) := fun i hi hij => by
          obtain ⟨zs, o2, o3⟩ := HOW.out.c i hi
          obtain ⟨xs, o1, _⟩ := HOW.out.l
          exact ⟨zs, own_set (own_below o2 B47) fun e => own_two o1 o2 (by decide) bl rfl e, fun b e => own_lt o2 e, o3⟩
        have HU8 : Hid (World.ownsRow (w7.setCell ⟨bl, ol + j * 6 + 3, none⟩ (.slice ua (x.cl.length - 1) uc)) w5.heap.size 3 1 (.slice ua (x.cl.length - 1) uc) (x.cl.length - 1) (cellsL (x.cl.length - 1) 1 fun i => encI x.cl (i + 1))) := own_set h7 fun e => by have := own_blk h7 bl e; omega
        have HR8 : Hid (Rd (w7.setCell ⟨bl, ol + j * 6 + 3, none⟩ (.slice ua (x.cl.length - 1) uc)) (some ⟨bl, ol, none⟩) Q.ls.length 6 (fun i e => if i = j ∧ e = 3 then (.slice ua (x.cl.length - 1) uc) else encLs Q.ls V' i e)) := by
          have hr := (HOW.out.qis.below B47).l
          obtain ⟨_, _, e1, _, _, hr⟩ := hr
          cases e1
          exact hr.put hjn (f := 3) (by omega) _
        have B8 : Hid (Below w3b.heap.size w3b (w7.setCell ⟨bl, ol + j * 6 + 3, none⟩ (.slice ua (x.cl.length - 1) uc))) := (Below.onto HB4.out B47).setCell (show w3b.heap.size ≤ bl by
          obtain ⟨xs, o1, _⟩ := HOW.out.l
          exact own_blk o1 bl rfl) _
        have HSZ8 : Hid (w5.heap.size ≤ (World.heap (w7.setCell ⟨bl, ol + j * 6 + 3, none⟩ (.slice ua (x.cl.length - 1) uc))).size) := by
          show _ ≤ _
          have h3 : (World.heap (w7.setCell ⟨bl, ol + j * 6 + 3, none⟩ (.slice ua (x.cl.length - 1) uc))).size = w7.heap.size := by simp [World.setCell]
          rw [h3]
          exact b57.size
        clear h7 b57 B47 hzz HL6 HFZ HSRC l3 x0 x1 r0 r1 r2 z1 z2 z3 HCL HL3 HL34 HCL4
        generalize (Value.slice (if cc = 1 then some ⟨g, 0, none⟩ else some ⟨g, 1, none⟩) (x.cl.length - 1) (cc - 1)) = u42
        generalize w7.setCell ⟨bl, ol + j * 6 + 3, none⟩ (.slice ua (x.cl.length - 1) uc) = w8 at *
        obtain ⟨x0, x1⟩ := K5f.out.bx.two
        obtain ⟨r0, r1, r2⟩ := K2f.out.bx.three
        obtain ⟨zs, hm8, hz8⟩ := HM8.out
        have HZ8 : Hid (∀ i, i < Q.ms.length → ∀ f, f < 4 → zs[i * 4 + f]? = some (encMs Q.ms i f)) := hz8
        have bd : Below w8.heap.size w8 (w8.alloc (.cells #[.int .i64 (j : Int), .int .i64 ep, .int .i64 n, .int .u64 pay] 40)) := below_new _ _
        have hown : World.ownsRow (w8.alloc (.cells #[.int .i64 (j : Int), .int .i64 ep, .int .i64 n, .int .u64 pay] 40)) w3b.heap.size _ _ _ _ _ := own_below hm8 bd
        have hy := bx_new w8 [.int .i64 (j : Int), .int .i64 ep, .int .i64 n, .int .u64 pay] 40
        have hsl : Sl (w8.alloc (.cells #[.int .i64 (j : Int), .int .i64 ep, .int .i64 n, .int .u64 pay] 40)) 4 1 (fun _ => encM ⟨(j : Int), ep, n, pay⟩) (.slice (some ⟨w8.heap.size, 0, none⟩) 1 1) := ⟨_, _, rfl, Nat.le_refl _, (fun e => by cases e), fun i hi => ⟨w8.heap.size, 0, rfl, fun f hf => by
          obtain rfl : i = 0 := by omega
          rw [Nat.zero_mul, Nat.zero_add]
          exact hy f _ (enc4 (m := ⟨(j : Int), ep, n, pay⟩) f hf)⟩⟩
        have HSL : Hid (Sl _ _ _ _ _) := hsl
        have HOWN : Hid (World.ownsRow _ _ _ _ _ _ _) := hown
        have hbs : w3b.heap.size ≤ (w8.alloc (.cells #[.int .i64 (j : Int), .int .i64 ep, .int .i64 n, .int .u64 pay] 40)).heap.size := Nat.le_trans B8.out.size bd.size
        have HBS : Hid (_ ≤ _) := hbs
        have H1M : Hid (∀ i, i < 1 → ∀ f, f < 4 → (encM ⟨(j : Int), ep, n, pay⟩ f).oneCell' = true) := fun i _ f hf => by
          match f, hf with
          | 0, _ => rfl
          | 1, _ => rfl
          | 2, _ => rfl
          | 3, _ => rfl
        have hl1 : Q.ms.length + 1 ≤ 1000000 := by omega
        have hnD : (Value.slice ma' Q.ms.length mc').ownBlock ≠ some w4.heap.size := own_ne_blk hm8 K5f.out (by decide)
        have hnC : (Value.slice ma' Q.ms.length mc').ownBlock ≠ some C2 := fun e => by have := own_blk hm8 C2 e; have := HZ.out; omega
        have HF10 : Hid (∀ w10, World.grownBy (w8.alloc (.cells #[.int .i64 (j : Int), .int .i64 ep, .int .i64 n, .int .u64 pay] 40)) w10 (Value.slice ma' Q.ms.length mc').ownBlock → Below w3b.heap.size w3b w10 ∧ ∀ b, b < w8.heap.size → (Value.slice ma' Q.ms.length mc').ownBlock ≠ some b → w10.heap[b]? = w8.heap[b]?) := fun w10 hg => ⟨(Below.onto B8.out bd).trans (grown_below hg hbs fun g e => own_blk hown g e), fun b hb hne => (hg.block b (Nat.lt_of_lt_of_le hb bd.size) fun e => hne e.symm).trans (bd.block b hb)⟩
        have HK10 : Hid (∀ w10, (∀ b, b < w8.heap.size → (Value.slice ma' Q.ms.length mc').ownBlock ≠ some b → w10.heap[b]? = w8.heap[b]?) → Blk w10 w4.heap.size 25 [(.slice (some ⟨bl, ol, none⟩) Q.ls.length lc'), (Value.slice ma' Q.ms.length mc')] ∧ Blk w10 C2 25 [.slice none 0 0, .slice none 0 0]) := fun w10 h => ⟨K5f.out.same (h _ K5f.out.lt hnD), K3f.out.same (h _ K3f.out.lt hnC)⟩
        have z1 := K5f.out.lt
        have z2 := K2f.out.lt
        have hnn : ¬ w4.heap.size = C2 := by have := HZ.out; omega
        have HX9 : Hid (∀ (w10 : World) (va : Option Addr) (vc : Nat), w10.ownsRow w3b.heap.size 40 4 (.slice va (Q.ms.length + 1) vc) (Q.ms.length + 1) (zs ++ cellsL 1 4 (fun _ => encM ⟨(j : Int), ep, n, pay⟩)) → Below w3b.heap.size w3b w10 → (∀ b, b < w8.heap.size → (Value.slice ma' Q.ms.length mc').ownBlock ≠ some b → w10.heap[b]? = w8.heap[b]?) →
            QIs (w10.setCell ⟨w4.heap.size, 1, none⟩ (.slice va (Q.ms.length + 1) vc)) (.slice (some ⟨bl, ol, none⟩) Q.ls.length lc') (.slice va (Q.ms.length + 1) vc) ⟨Q.ls.set j (pubL x), Q.ms ++ [⟨(j : Int), ep, n, pay⟩]⟩ (updV V' j (.slice ua (x.cl.length - 1) uc))) := fun w10 va vc h10 hb10 hk => by
          have hzz := HZ.out
          have hsz := HSZ8.out
          have hkd := (HK10.out w10 hk).1
          refine ⟨?_, fun i hi => ?_, ?_⟩
          · show Sl _ 6 (Q.ls.set j (pubL x)).length _ _
            rw [show (Q.ls.set j (pubL x)).length = Q.ls.length from by simp]
            have hle : Q.ls.length ≤ lc' := by
              obtain ⟨_, _, e1, h1, _⟩ := HOW.out.qis.l
              cases e1
              exact h1
            refine ⟨some ⟨bl, ol, none⟩, lc', rfl, hle, (fun e => by cases e), ?_⟩
            have hr : Rd w10 (some ⟨bl, ol, none⟩) Q.ls.length 6 _ := HR8.out.same fun b off e => by
              have e : bl = b := by injection e with e; injection e
              subst e
              exact hk bl (by omega) fun e => hblm bl e rfl
            refine (hr.setO (fun e => hne e.symm) _).congr fun i _ e he => ?_
            have := ls_step (ls := Q.ls) (V := V') (k := j) (v := (.slice ua (x.cl.length - 1) uc)) i e he
            show (if i = j ∧ e = 3 then (.slice ua (x.cl.length - 1) uc) else encLs Q.ls V' i e) = _
            rw [this]
            exact pub_cells HXJ.out hjn i e he
          · have hi' : i < Q.ls.length := by simpa using hi
            show Cl _ (updV V' j (.slice ua (x.cl.length - 1) uc) i) (atP (Q.ls.set j (pubL x)) i).cl
            unfold updV
            rw [atP_set hjn]
            by_cases e : i = j
            · rw [if_pos e, if_pos e]
              have hu : World.ownsRow (w10.setCell ⟨w4.heap.size, 1, none⟩ (.slice va (Q.ms.length + 1) vc)) w5.heap.size 3 1 (.slice ua (x.cl.length - 1) uc) (x.cl.length - 1) (cellsL (x.cl.length - 1) 1 fun i => encI x.cl (i + 1)) := own_set (own_same HU8.out fun b e => hk b (own_lt HU8.out e) fun e2 => by
                have h1 := own_blk HU8.out b e
                obtain ⟨ts, o2, _⟩ := HOW.out.m
                have h2 := own_lt o2 e2
                omega) fun e => by have := own_blk HU8.out _ e; omega
              exact cl_tail (l := x.cl) (k := x.cl.length - 1) (by omega) (sl_own hu fun i hi f hf => cellsL_at hi hf)
            · rw [if_neg e, if_neg e]
              obtain ⟨ts, o2, o3, o4⟩ := HC8.out i hi' e
              have hu : World.ownsRow (w10.setCell ⟨w4.heap.size, 1, none⟩ (.slice va (Q.ms.length + 1) vc)) w3b.heap.size 3 1 (V' i) _ ts := own_set (own_same o2 fun b e => hk b (own_lt o2 e) fun e2 => own_two o2 hm8 (by decide) b e e2) fun e => by have := o3 _ e; omega
              refine sl_own hu fun i2 hi2 f hf => ?_
              obtain rfl : f = 0 := by omega
              rw [Nat.mul_one, Nat.add_zero]
              exact o4 i2 hi2
          · show Sl _ 4 (Q.ms ++ [(⟨(j : Int), ep, n, pay⟩ : PMs)]).length _ _
            rw [show (Q.ms ++ [(⟨(j : Int), ep, n, pay⟩ : PMs)]).length = Q.ms.length + 1 from by simp]
            exact sl_own (own_set h10 (own_ne_blk h10 hkd (by decide))) (msg_snoc2 hm8.1 HZ8.out)
        have HN9 : Hid (∀ (va : Option Addr) (vc : Nat) (w10 : World) xs, w10.ownsRow w3b.heap.size 40 4 (.slice va (Q.ms.length + 1) vc) (Q.ms.length + 1) xs → QNew w3b.heap.size (.slice (some ⟨bl, ol, none⟩) Q.ls.length lc') (.slice va (Q.ms.length + 1) vc) ⟨Q.ls.set j (pubL x), Q.ms ++ [⟨(j : Int), ep, n, pay⟩]⟩ (updV V' j (.slice ua (x.cl.length - 1) uc))) := fun va vc w10 xs h10 => ⟨HOW.out.new.l, fun b e => own_blk h10 b e, fun i hi h0 b e => by
          have hi' : i < Q.ls.length := by simpa using hi
          unfold updV at e
          by_cases ej : i = j
          · rw [if_pos ej] at e
            have h1 := own_blk HU8.out b e
            have h2 := HZ.out
            have h3 := HB4.out.size
            omega
          · rw [if_neg ej] at e
            obtain ⟨ts, o2, _⟩ := HC8.out i hi' ej
            exact own_blk o2 b e⟩
        clear bd hown hy hsl hbs hz8 hnD hnC
        go_wp2_with (at_builtin; refine wpList_app eltM rfl (.tmp 47) (.tmp 56) rfl w3b.heap.size (Value.slice ma' Q.ms.length mc') (.slice (some ⟨w8.heap.size, 0, none⟩) 1 1) Q.ms.length 1 zs (fun _ => encM ⟨(j : Int), ep, n, pay⟩) rfl rfl HOWN.out HSL.out H1M.out hl1 HBS.out ?_; intro v10 w10 h10 hg10; obtain ⟨va, vc, rfl⟩ := own_form2 h10; obtain ⟨hb10, hk10⟩ := HF10.out w10 hg10; obtain ⟨kd, kc⟩ := HK10.out w10 hk10; obtain ⟨t0, t1⟩ := kd.bx.two; have t2 := kd.fz; obtain ⟨p0, p1⟩ := kc.bx.two; have p2 := kc.fz)
        have HQ10 := HX9.out w10 va vc h10 hb10 hk10
        have HN10 := HN9.out va vc w10 _ h10
        have hzz := HZ.out
        have hz4 := HB4.out.size
        have hC2 : C2 < w3b.heap.size := hzz.2.2.1
        have hbw : Below w.heap.size w w10 := Below.onto B3b.out hb10
        refine bodyPost_ret (v := .tuple #[quV (.slice (some ⟨bl, ol, none⟩) Q.ls.length lc') (.slice va (Q.ms.length + 1) vc), .int .i64 0]) (by simp [results, Try.results13, go_sem, p0, p1]) rfl ⟨_, _, updV V' j (.slice ua (x.cl.length - 1) uc), by rw [HE.out], by rw [HP.out]; exact (HQ10.setO HN10 hC2).setO HN10 hC2, ?_, by rw [HP.out]; exact HN10.mono (by omega)⟩
        exact ((hbw.setCell (show w.heap.size ≤ w4.heap.size by omega) _).setCell HL2.out _).setCell HL2.out _
  · have HE : Hid (Q.pbE ln n ep = Q.nam ln) := pbE_nam hE
    have HP : Hid (Q.pbQ ln n ep pay = qu0) := by show _ = _; rw [Qu.pbQ, HE.out, if_neg hE]
    have hE1 : (Q.nam ln == 0) = false := by simp [hE]
    clear hE
    generalize Q.nam ln = E at *
    go_enter Try.func13, Try.ntmps13
    go_wp2_with fail
    generalize ((w.alloc (.cells #[.slice la Q.ls.length lc, .slice ma Q.ms.length mc] 25)).alloc (.cells #[.int .i64 ln, .int .i64 n, .int .i64 ep] 27)).alloc (.cells #[.slice none 0 0, .slice none 0 0] 25) = w2 at *
    obtain ⟨r0, r1, r2⟩ := K2.out.bx.three
    refine (hsk _ (HQ.out.below B2.out)).mono ?_
    rintro e w3 ⟨rfl, hb⟩
    obtain ⟨p0, p1⟩ := (K3.out.below hb).bx.two
    have p2 := (K3.out.below hb).fz
    have B3 : Hid (Below w.heap.size w w3) := Below.onto B2.out hb
    have HL2 : Hid (w.heap.size ≤ w.heap.size + 1 + 1) := by show _ ≤ _; omega
    clear hb
    generalize w.heap.size + 1 + 1 = C2 at *
    go_wp2_with fail
    refine bodyPost_ret (v := .tuple #[quV (.slice none 0 0) (.slice none 0 0), .int .i64 E]) (by simp [results, Try.results13, go_sem, p0, p1]) rfl ⟨.slice none 0 0, .slice none 0 0, fun _ => .slice none 0 0, by rw [HE.out], by rw [HP.out]; exact qis0 _, ?_, by rw [HP.out]; exact qnew0 _⟩
    repeat (first | (with_reducible exact B3.out) | ((with_reducible refine Below.setCell ?_ ?_ _); rotate_left; first | exact HL2.out))

end Go.Proofs.Ytimmjhegeagofab
