/- The messages that are published, taken or held, by their numbers. -/
import Derived.Test.YtilahfomiofgcaaJSentM
namespace Go.Proofs.Ytilahfomiofgcaa
open Go.RowKit Go.Lib
open Go.Sort hiding Below
set_option maxRecDepth 100000

set_option maxHeartbeats 8000000 in
theorem jsent (o : Lo) (A : La) (w : World) (x : Lx w o A) :
    Calls Try.prog 36 #[o.ptr] w fun e w' => ∃ B cap, e = .returned (.slice (some ⟨B, 0, none⟩) (A.T.length + A.P.length) cap) ∧ HoldsK (encT A.st) 6 w' B 0 ((A.T ++ A.P).map mtOf).toArray ∧ w.heap.size ≤ B ∧ Below w.heap.size w w' := by
  have h1 := x.ok.hr
  have h2 := x.ok.bd
  have hw4 : IntKind.u64.wrap (sqI A.st A.r - sqI A.st A.h) = (A.P.length : Int) := by rw [lessI_wrap, sq_less (by omega) (by omega)]; congr 1; omega
  have hmk := fun W => make_msgs W A.P.length (by omega)
  have r3 := cell_regrown x.lc.c3
  have r4 := cell_regrown x.lc.c4
  have q0 := sqI_0 A.st A.h
  have hpl := fun W => place_ok (sqI A.st A.h) 64 W q0 (by decide) (by decide) ring64
  rw [pz_int] at hpl
  have hst := pz_lt (sqI A.st A.h)
  have HX : Hid (Lx w o A) := x
  clear x
  go_enter Try.func36, Try.ntmps36
  go_wp2_with fail
  refine wp_region_quiet_tail 9 (by kernel_rfl) (by kernel_rfl) (by kernel_rfl) ?_
  simp only [List.take_succ_cons, List.take_zero, List.drop_succ_cons, List.drop_zero]
  repeat (go_big_quiet_step (fail))
  refine wpQuiet_nil ?_
  intro _ hw'
  obtain ⟨⟨dq, osq⟩, hw''⟩ := hw'
  subst hw''
  have hb1 := below_regrown w dq osq
  have x1 := HX.out.below hb1
  generalize grow (redrawn w dq) osq = w1 at *
  clear r3 r4
  unfold tailWp
  intro K hK
  go_simp
  refine hK _ _ ?_
  clear hK
  unfold tailWp
  intro K hK
  go_simp
  refine hK _ _ ?_
  clear hK
  unfold tailWp
  have hb2 := jalloc (Below.refl _ w1) (.cells (mkC A.P.length) 56)
  have x2 := x1.below hb2
  have hG : (w1.alloc (.cells (mkC A.P.length) 56)).heap[w1.heap.size]? = some (.cells (mkC A.P.length) 56 (0, 0)) := World.alloc_heap_new w1 _
  have c3 := x2.lc.c3
  generalize hz : pzN (sqI A.st A.h) = z at *
  generalize (w1.alloc (.cells (mkC A.P.length) 56)) = w2 at *
  generalize hGe : w1.heap.size = G at *
  go_wp2_with fail
  refine (hpl _).mono ?_
  rintro v w' ⟨rfl, hw'⟩
  subst hw'
  clear hpl hmk hw4 c3
  have hzs : ∀ a i, pzN (sqI A.st (A.h + a + i)) = (z + a + i) % 64 := fun a i => by rw [← hz]; unfold pzN sqI; omega
  obtain ⟨n, hn⟩ : ∃ n, A.P.length = n := ⟨_, rfl⟩
  rw [hn] at hG ⊢
  obtain ⟨m1, hm1⟩ : ∃ m, m = Nat.min (64 - z) n := ⟨_, rfl⟩
  have hmn : m1 ≤ n ∧ m1 ≤ 64 - z ∧ (m1 = n ∨ m1 = 64 - z) := by rw [hm1]; simp only [Nat.min_def]; split <;> omega
  have hsl := slice_ring o.p z hst
  have hsl0 := slice_ring0 o.p
  have hsr := slice_row G n m1 hmn.1
  have hP1 : (encM A.st (A.P.take m1)).length = m1 * 6 := by rw [encM_len, List.length_take, hn]; congr 1; omega
  have hcp1 := run_copy6 w' 3 G 0 n n ⟨o.p, 6 + z * 6, none⟩ (64 - z) (64 - z) m1 (mkC n) 56 (encM A.st (A.P.take m1)) hm1.symm hP1 hG (fun j v hj => by rw [Go.WideShapes.add_plain]; exact x2.seg 0 m1 z (fun i hi => by rw [hzs]; omega) j v (by simpa using hj)) (by rw [hP1, mkC_size]; omega) (encM_one _ _)
  rw [List.take_zero, List.nil_append, hP1, Nat.zero_add] at hcp1
  clear hm1
  have hG3 : (w'.setRow G (encM A.st (A.P.take m1) ++ (mkC n).toList.drop (m1 * 6)).toArray).heap[G]? = some (.cells (encM A.st (A.P.take m1) ++ (mkC n).toList.drop (m1 * 6)).toArray 56 (0, 0)) := setRow_heap w' G _ _ _ _ hG
  have hGs : w.heap.size ≤ G := by rw [← hGe]; exact hb1.size
  have hB2 : Below w.heap.size w w' := hb1.trans (hb2.mono hGs)
  have hR1l : (encM A.st (A.P.take m1) ++ (mkC n).toList.drop (m1 * 6)).length = n * 6 := by
    rw [List.length_append, hP1, List.length_drop, Array.length_toList, mkC_size]; omega
  have hR1t : (encM A.st (A.P.take m1) ++ (mkC n).toList.drop (m1 * 6)).take (m1 * 6) = encM A.st (A.P.take m1) := by rw [← hP1, List.take_left]
  have hR1n : n = m1 → encM A.st (A.P.take m1) ++ (mkC n).toList.drop (m1 * 6) = encM A.st A.P := fun e => by
    rw [List.drop_eq_nil_of_le (by rw [Array.length_toList, mkC_size]; omega), List.append_nil, List.take_of_length_le (by omega)]
  generalize hR1 : encM A.st (A.P.take m1) ++ (mkC n).toList.drop (m1 * 6) = R1 at *
  have hB3 : Below w.heap.size w (w'.setRow G R1.toArray) := jsetRow hB2 hGs _
  obtain ⟨w3, hw3⟩ : ∃ w3, w'.setRow G R1.toArray = w3 := ⟨_, rfl⟩
  rw [hw3] at hcp1 hG3 hB3
  have x3 := HX.out.below hB3
  go_wp2_with fail
  clear hcp1 hw3
  refine wp_region_quiet_last (by simp) (by kernel_rfl) (by kernel_rfl) (by kernel_rfl) ?_
  dsimp only [List.dropLast, List.getLast]
  repeat (go_big_quiet_step (fail))
  refine wpQuiet_nil ?_
  intro _ hw'
  obtain ⟨⟨dq, osq⟩, hw''⟩ := hw'
  subst hw''
  have hb5 := below_regrown w3 dq osq
  have hG5 := (hb5.block G (Array.getElem?_eq_some_iff.1 hG3).1).trans hG3
  have hB5 := Below.onto hB3 hb5
  have x5 := x3.below hb5
  generalize grow (redrawn w3 dq) osq = w5 at *
  have hP2 : (encM A.st (A.P.drop m1)).length = (n - m1) * 6 := by rw [encM_len, List.length_drop, hn]
  have hcp2 := run_copy6 w5 3 G (if n = m1 then 0 else m1 * 6) (n - m1) (n - m1) ⟨o.p, 6, none⟩ 64 64 (n - m1) R1.toArray 56 (encM A.st (A.P.drop m1)) (by simp only [Nat.min_def]; split <;> omega) hP2 hG5
    (fun j v hj => by
      rw [Go.WideShapes.add_plain]
      have := x5.seg m1 (n - m1) 0 (fun i hi => by rw [hzs]; omega) j v (by rw [List.take_of_length_le (by rw [List.length_drop]; omega)]; exact hj)
      simpa using this) (by rw [hP2]; simp only [List.size_toArray, hR1l]; split <;> omega) (encM_one _ _)
  have hrow : (R1.toArray.toList.take (if n = m1 then 0 else m1 * 6) ++ encM A.st (A.P.drop m1) ++ R1.toArray.toList.drop ((if n = m1 then 0 else m1 * 6) + (encM A.st (A.P.drop m1)).length)) = encM A.st A.P := by
    rw [hP2]
    by_cases e : n = m1
    · rw [if_pos e]
      have e0 : (n - m1) * 6 = 0 := by rw [e]; simp
      have e1 : A.P.drop m1 = [] := List.drop_eq_nil_of_le (by omega)
      rw [e0, e1]
      simpa [encM] using hR1n e
    · rw [if_neg e]
      simp only
      have e9 : List.drop (m1 * 6 + (n - m1) * 6) R1 = [] := List.drop_eq_nil_of_le (by rw [hR1l]; omega)
      rw [hR1t, e9, List.append_nil, ← encM_app, List.take_append_drop]
  rw [hrow] at hcp2
  have hG6 : (w5.setRow G (encM A.st A.P).toArray).heap[G]? = some (.cells (encM A.st A.P).toArray 56 (0, 0)) := setRow_heap w5 G _ _ _ _ hG5
  have hB6 : Below w.heap.size w (w5.setRow G (encM A.st A.P).toArray) := jsetRow hB5 hGs _
  obtain ⟨w6, hw6⟩ : ∃ w6, w5.setRow G (encM A.st A.P).toArray = w6 := ⟨_, rfl⟩
  rw [hw6] at hcp2 hG6 hB6
  have own6 : w6.ownsRow w.heap.size 56 6 (.slice (some ⟨G, 0, none⟩) n n) n (encM A.st A.P) := ⟨by rw [encM_len, hn], .inr ⟨G, n, _, rfl, hGs, hG6, Nat.le_refl _, by unfold maxLen; omega, by simp [encM_len, hn], by simp [← hn, ← encM_len A.st A.P]⟩⟩
  have x6 := HX.out.below hB6
  clear hb5 hG5 hB5 x5 hP2 hrow hG3 hB3 x3 hR1 hR1l hR1t hR1n hsl hsl0 hsr hP1 hG hb2 x2 hB2 x1 hb1 hw6 hzs hmn
  intro K hK
  refine wp_copy_run _ _ 58 rfl _ _ _ rfl rfl hcp2 ?_
  refine hK _ _ ?_
  clear hK hcp2
  generalize (if n = m1 then 0 else m1 * 6) = off2 at *
  have cm := x6.lc.cm
  obtain ⟨es, clock, hes, hst, hkeys, hvals⟩ := x6.mp
  have hrg := run_range_map (P := Try.prog) w6 54 _ _ o.bm es clock Try.underlying54 hes
  have hstp := (MapKept.stamped_iff es clock).1 hst
  have hbm : o.bm < w.heap.size := HX.out.mp.lt
  have hes0 : w.heap[o.bm]? = some (.map es clock) := (hB6.block _ hbm).symm.trans hes
  have hit : (w6.alloc (.mapIter (some o.bm) clock #[] clock)).heap[w6.heap.size]? = some (.mapIter (some o.bm) clock #[] clock) := World.alloc_heap_new w6 _
  have own7 := own6.alloc (.mapIter (some o.bm) clock #[] clock)
  have hB7 := jalloc hB6 (.mapIter (some o.bm) clock #[] clock)
  have hGr : G ≠ w6.heap.size := by have := (Array.getElem?_eq_some_iff.1 hG6).1; omega
  have hrs : w.heap.size ≤ w6.heap.size := hB6.size
  go_wp2_with fail
  generalize w6.alloc (.mapIter (some o.bm) clock #[] clock) = w7 at *
  generalize w6.heap.size = r at *
  clear hrg own6 cm x6 hG6 hB6 hes
  have hvs : ∀ e, e ∈ es.toList → ∃ m, m ∈ o.tl ∧ e.val = msV A.st m := fun e he => by
    obtain ⟨j, hj⟩ := List.getElem?_of_mem he
    obtain ⟨m, h3, _, h4⟩ := mp_at hkeys hvals hj
    exact ⟨m, List.mem_of_getElem? h3, h4⟩
  have hl0 : (leftOf es #[]).toList = es.toList := by unfold leftOf; rw [Array.toList_filter]; exact List.filter_eq_self.2 (by simp)
  have hes64 : es.size ≤ 64 := by rw [mp_len hkeys]; have := HX.out.tl_len; omega
  obtain ⟨i0, hi, hz0, hz1, hz2⟩ := info_parts Try.infoMs
  go_loopw [3] (fun v wr => ∃ (Vd : List MapEntry) (seen : Array Nat) (c0 : Nat), Hid (wr.heap[r]? = some (.mapIter (some o.bm) clock seen c0)) ∧ clock ≤ c0 ∧ Hid (wr.ownsRow w.heap.size 56 6 v (n + Vd.length) (encM A.st A.P ++ entC Vd)) ∧ Hid ((Vd ++ (leftOf es seen).toList).Perm es.toList) ∧ v.ownBlock ≠ some r ∧ r < wr.heap.size ∧ v ≠ .slice none 0 0 ∧ Below w.heap.size w wr) (fun _ wr => wr.rangeLeft o.bm r)
  case atStart => exact ⟨[], #[], clock, hit, Nat.le_refl _, by show World.ownsRow _ _ _ _ _ _ _; simpa [entC] using own7, by show List.Perm _ _; rw [hl0, List.nil_append], fun e => hGr (Option.some.inj e), (Array.getElem?_eq_some_iff.1 hit).1, by simp, hB7⟩
  case round =>
    obtain ⟨Vd, seen, c0, hr, hc0, HO, HPm, hne, hlt, hnl, hbel⟩ := hrel
    have hes' := (hbel.block _ hbm).trans hes0
    have hVl : Vd.length ≤ 64 := by
      have := HPm.out.length_eq
      simp only [List.length_append, Array.length_toList] at this
      omega
    rcases run_next_at (P := Try.prog) wr 0 r o.bm clock c0 seen es clock hr.out hes' hstp.1 hc0 with ⟨h0, hrun⟩ | ⟨e, he, w8, hal, hrun⟩
    · have xw := HX.out.below hbel
      have ch := xw.lc.ch
      have hl1 : (leftOf es seen).toList = [] := by rw [Array.eq_empty_of_size_eq_zero h0]
      have hVp : Vd.Perm es.toList := by have h := HPm.out; rwa [hl1, List.append_nil] at h
      have hmap : (Vd.map (·.val)).Perm (o.tl.map (msV A.st)) := by rw [← hvals]; exact hVp.map _
      obtain ⟨S, hS1, hS2⟩ := perm_map (msV A.st) hmap
      have hEnt := entC_of hS2
      have hSl : Vd.length = S.length := by have := congrArg List.length hS2; simpa using this.symm
      have own8 := HO.out
      rw [hEnt, hSl, ← encM_app] at own8
      have hbb : w.heap.size ≤ wr.heap.size := hbel.size
      have htl := xw.tl_len
      have hS64 : S.length ≤ 64 := by omega
      have hn64 : n ≤ 64 := by omega
      obtain ⟨v', w9, hrun9, own9, hgr, hnil⟩ : ∃ v' w9, (Builtin.append_ #[58, 58] 58 #[u3, o.hv]).run Try.prog wr = .ok v' w9 ∧ w9.ownsRow w.heap.size 56 6 v' (n + S.length + o.hl.length) (encM A.st (A.P ++ S) ++ encM A.st o.hl) ∧ wr.grownBy w9 u3.ownBlock ∧ v' ≠ .slice none 0 0 := by
        rcases xw.hd.2 with ⟨hv0, hl00⟩ | ⟨g, cap, cur, hv0, _⟩
        · have e0 : o.hl = [] := List.length_eq_zero_iff.1 hl00
          have hrn := run_append_owned_none (P := Try.prog) (w := wr) w.heap.size 58 58 56 i0 6 Try.underlying58 hi u3 _ _ own8
          rw [hv0, e0]
          exact ⟨u3, wr, hrn, by simpa [encM] using own8, World.grownBy.refl _ _, hnl⟩
        · have hnw := xw.hd.cells (g := g) (by rw [hv0]; rfl)
          rw [hv0]
          obtain ⟨v', w9, q1, q2, q3, q4, _⟩ := run_append_own_at (P := Try.prog) (w := wr) w.heap.size 58 58 56 i0 msZ 6 48 Try.underlying58 hi hz0 hz1 hz2 rfl (by decide) u3 _ _ own8 ⟨g, 0, none⟩ o.hl.length cap (encM A.st o.hl) (encM_len _ _) hnw (encM_one _ _) (by unfold maxLen; omega) (by omega) hbb
          exact ⟨v', w9, q1, q2, q3, fun h => hnl (q4.1 h).1⟩
      have hb9 : Below w.heap.size w w9 := hbel.grown hgr hbb (fun q e => (own8.lt q e).1)
      rw [← encM_app] at own9
      have hXl : (A.P ++ S ++ o.hl).length = n + S.length + o.hl.length := by rw [List.length_append, List.length_append, hn]
      have hperm : (A.P ++ S ++ o.hl).Perm (A.T ++ A.P) := by
        have p1 : (S ++ o.hl).Perm A.T := ((hS1.trans xw.tp).append xw.hp).trans (filter_perm fun m hm => (xw.ok.kT m hm).2)
        rw [List.append_assoc]
        exact (List.Perm.append_left _ p1).trans List.perm_append_comm
      have hkX : ∀ m ∈ A.P ++ S ++ o.hl, m.k ≤ 1000000 := fun m hm => by
        have hb := xw.ok.bd
        have hr9 := xw.ok.hr
        rcases List.mem_append.1 (hperm.mem_iff.1 hm) with h | h
        · have := (xw.ok.kT m h).1; omega
        · have := xw.ok.mem_P h; omega
      have hnT : n + S.length + o.hl.length = A.T.length + A.P.length := by rw [← hXl, hperm.length_eq]; simp
      obtain ⟨g9, cap9, rfl, hg9⟩ : ∃ g9 cap9, v' = .slice (some ⟨g9, 0, none⟩) (n + S.length + o.hl.length) cap9 ∧ w.heap.size ≤ g9 := by
        rcases own9.2 with ⟨h, _⟩ | ⟨g9, cap9, cur9, h, hb, _⟩
        · exact absurd h hnil
        · exact ⟨g9, cap9, h, hb⟩
      have hH := own_holds own9 hXl hkX
      have hg9l := (own9.lt g9 rfl).2
      have hsz9 : ((A.P ++ S ++ o.hl).map mtOf).toArray.size = n + S.length + o.hl.length := by rw [List.size_toArray, List.length_map, hXl]
      have hc := jsort_any A.st g9 0 cap9 ((A.P ++ S ++ o.hl).map mtOf).toArray w9 hH hg9l (by rw [hsz9]; omega)
      have hrise := xw.ok.rise
      have hpm : ((A.P ++ S ++ o.hl).map mtOf).toArray.toList.Perm ((A.T ++ A.P).map mtOf) := by simpa using hperm.map mtOf
      have HSZ : Hid (((A.P ++ S ++ o.hl).map mtOf).toArray.size = ((A.T ++ A.P).map mtOf).toArray.size) := by show _ = _; rw [hsz9, hnT]; simp
      rw [hsz9] at hc
      have HH : Hid (HoldsK (encT A.st) 6 w9 g9 0 ((A.P ++ S ++ o.hl).map mtOf).toArray) := hH
      have HR : Hid (((A.T ++ A.P).map mtOf).Pairwise (fun x y => farT x < farT y)) := hrise
      have HP : Hid (((A.P ++ S ++ o.hl).map mtOf).toArray.toList.Perm ((A.T ++ A.P).map mtOf)) := hpm
      have HZ : Hid (((A.P ++ S ++ o.hl).map mtOf).toArray.size = n + S.length + o.hl.length) := hsz9
      have HN : Hid (n + S.length + o.hl.length = A.T.length + A.P.length) := hnT
      obtain ⟨nn, hnn⟩ : ∃ nn, n + S.length + o.hl.length = nn := ⟨_, rfl⟩
      have HL : Hid (g9 < w9.heap.size ∧ w.heap.size ≤ g9 ∧ Below w.heap.size w w9) := ⟨hg9l, hg9, hb9⟩
      rw [hnn] at hc hrun9 HZ HN
      clear hnn hsz9 hpm hrise hH hkX hperm hXl own9 own8 hgr hnil hb9 hg9l hg9 hnT hSl hEnt hS1 hS2 hmap hVp hl1 xw htl hS64 hn64 hbb hbel hes' hVl HO HPm hr hc0 hlt hvs hl0 hstp hkeys hvals hst hn hz hGe hit own7 hB7 hes64 hne hnl h0
      go_wp2_with (at_builtin; refine wpList_append_run rfl _ _ _ rfl _ _ _ rfl rfl hrun9 ?_)
      refine hc.mono ?_
      rintro e w10 ⟨rfl, d', mm, os, hp, hs, rfl⟩
      rw [← HZ.out] at hp hs
      have hd' := sorted_is hp hs HP.out HR.out
      subst hd'
      have hB10 : Below w.heap.size w (sortWorldK (encT A.st) 6 w9 g9 0 mm ((A.T ++ A.P).map mtOf).toArray os) := by
        have h1 : Below w.heap.size w (putRowK (encT A.st) 6 (Go.Sort.ahead w9 mm) g9 0 ((A.T ++ A.P).map mtOf).toArray) := Go.Lib.below_putRow HL.out.2.2 HL.out.2.1
        exact h1.trans (jgrow _ os (by have := h1.size; omega))
      have hH10 : HoldsK (encT A.st) 6 (sortWorldK (encT A.st) 6 w9 g9 0 mm ((A.T ++ A.P).map mtOf).toArray os) g9 0 ((A.T ++ A.P).map mtOf).toArray := by
        have h2 : HoldsK (encT A.st) 6 (putRowK (encT A.st) 6 (Go.Sort.ahead w9 mm) g9 0 ((A.T ++ A.P).map mtOf).toArray) g9 0 ((A.T ++ A.P).map mtOf).toArray := holdsK_putRowK (encT A.st) 6 (Go.Sort.ahead w9 mm) g9 0 _ _ (holdsK_ahead (encT A.st) 6 w9 mm g9 0 _ HH.out) HSZ.out.symm
        exact holdsK_grow (encT A.st) 6 _ os g9 0 _ (by simpa [putRowK, putRow, mapBlock, Go.Sort.ahead] using HL.out.1) h2
      have HE : Hid (HoldsK (encT A.st) 6 (sortWorldK (encT A.st) 6 w9 g9 0 mm ((A.T ++ A.P).map mtOf).toArray os) g9 0 ((A.T ++ A.P).map mtOf).toArray ∧ Below w.heap.size w (sortWorldK (encT A.st) 6 w9 g9 0 mm ((A.T ++ A.P).map mtOf).toArray os)) := ⟨hH10, hB10⟩
      clear hH10 hB10 hp hs HH HR HP HSZ HZ hc hrun9
      generalize sortWorldK (encT A.st) 6 w9 g9 0 mm ((A.T ++ A.P).map mtOf).toArray os = w10 at *
      go_wp2_with fail
      go_ret
      exact ⟨g9, cap9, by rw [HN.out]; rfl, HE.out.1, HL.out.2.1, HE.out.2⟩
    · obtain ⟨m, hmt, hval⟩ := hvs e (mem_left he).1
      have hw8r : w8.heap[r]? = some (.mapIter (some o.bm) clock seen c0) := by rcases hal with rfl | rfl <;> exact hr.out
      have hset := MapKept.heap_set (o' := .mapIter (some o.bm) clock (seen.push e.born) clock) hw8r
      have hoth : ∀ i, i ≠ r → (Go.ChangeMaps.setBlock w8 r (.mapIter (some o.bm) clock (seen.push e.born) clock)).heap[i]? = wr.heap[i]? := fun i hi => (hset.2 i hi).trans (by rcases hal with rfl | rfl <;> rfl)
      have hszn : (Go.ChangeMaps.setBlock w8 r (.mapIter (some o.bm) clock (seen.push e.born) clock)).heap.size = wr.heap.size := by rcases hal with rfl | rfl <;> simp [Go.ChangeMaps.setBlock]
      have hosn : (Go.ChangeMaps.setBlock w8 r (.mapIter (some o.bm) clock (seen.push e.born) clock)).os = wr.os ∧ (Go.ChangeMaps.setBlock w8 r (.mapIter (some o.bm) clock (seen.push e.born) clock)).tape = wr.tape ∧ (Go.ChangeMaps.setBlock w8 r (.mapIter (some o.bm) clock (seen.push e.born) clock)).output = wr.output := by rcases hal with rfl | rfl <;> exact ⟨rfl, rfl, rfl⟩
      have hrn : (Go.ChangeMaps.setBlock w8 r (.mapIter (some o.bm) clock (seen.push e.born) clock)).heap[r]? = some (.mapIter (some o.bm) clock (seen.push e.born) clock) := hset.1
      have hbn := (hoth o.bm (by omega)).trans hes'
      have hent := run_entry_at (P := Try.prog) _ r o.bm clock seen es clock e hrn hbn (mem_left he).1 hstp.2.1
      have ownN := own_block HO.out (w' := Go.ChangeMaps.setBlock w8 r (.mapIter (some o.bm) clock (seen.push e.born) clock)) (fun b hb => hoth b (fun e => hne (by rw [← e]; exact hb)))
      have hbN : Below w.heap.size w (Go.ChangeMaps.setBlock w8 r (.mapIter (some o.bm) clock (seen.push e.born) clock)) := hbel.trans ⟨hosn.1, hosn.2.1, hosn.2.2, by rw [hszn]; exact Nat.le_refl _, fun k hk => hoth k (by omega)⟩
      rw [hval] at hrun hent
      unfold msV at hrun hent
      generalize Go.ChangeMaps.setBlock w8 r (.mapIter (some o.bm) clock (seen.push e.born) clock) = wn at *
      clear hset hw8r hosn hal hoth
      have ownB := (ownN.alloc (.cells (msC A.st m).toArray 56)).alloc (.cells (msC A.st m).toArray 56)
      have newB : ∀ j u, (msC A.st m)[j]? = some u → ((wn.alloc (.cells (msC A.st m).toArray 56)).alloc (.cells (msC A.st m).toArray 56)).cell? ((⟨wn.heap.size + 1, 0, none⟩ : Addr).add j) = some u := fun j u hj => by
        have hl := (List.getElem?_eq_some_iff.1 hj)
        rw [Go.WideShapes.add_plain, Nat.zero_add]
        have e1 : (wn.alloc (.cells (msC A.st m).toArray 56)).heap.size = wn.heap.size + 1 := by simp
        have := jnew_at (wn.alloc (.cells (msC A.st m).toArray 56)) (msC A.st m).toArray 56 j (by simpa using hl.1)
        rw [e1] at this
        rw [this]
        simp [hl.2]
      have hbB := jalloc (jalloc hbN (.cells (msC A.st m).toArray 56)) (.cells (msC A.st m).toArray 56)
      obtain ⟨v', w9, hrun9, own9, hgr, hnil, hloc⟩ := run_append_own_at (P := Try.prog) (w := (wn.alloc (.cells (msC A.st m).toArray 56)).alloc (.cells (msC A.st m).toArray 56)) w.heap.size 58 58 56 i0 msZ 6 48 Try.underlying58 hi hz0 hz1 hz2 rfl (by decide) u3 _ _ ownB ⟨wn.heap.size + 1, 0, none⟩ 1 1 (msC A.st m) rfl newB (by simp [msC, Value.oneCell']) (by unfold maxLen; omega) (by omega) hbB.size
      have hszB : ((wn.alloc (.cells (msC A.st m).toArray 56)).alloc (.cells (msC A.st m).toArray 56)).heap.size = wn.heap.size + 1 + 1 := by simp
      have hr9 : w9.heap[r]? = some (.mapIter (some o.bm) clock (seen.push e.born) clock) := by
        refine (hgr.block r (by rw [hszB, hszn]; omega) (fun h => hne h.symm)).trans ?_
        refine (Below.heap_alloc _ _ _ (by simp; omega)).trans ((Below.heap_alloc _ _ _ (by omega)).trans hrn)
      have hb9 : Below w.heap.size w w9 := hbB.grown hgr hbB.size (fun q e => (HO.out.lt q e).1)
      have hs9 := hgr.size
      have hlen9 : (msC A.st m).length = 6 := rfl
      have hent9 : entC (Vd ++ [e]) = entC Vd ++ msC A.st m := by unfold entC; rw [List.flatMap_append]; simp [hval, msV, msC, Value.cells]
      have HP9 : Hid (((Vd ++ [e]) ++ (leftOf es (seen.push e.born)).toList).Perm es.toList) := by
        show List.Perm _ _
        refine List.Perm.trans ?_ HPm.out
        rw [List.append_assoc]
        exact List.Perm.append_left _ (left_perm hstp.2.1 he).symm
      have hms := left_shrinks es seen e he
      have hm0 : wr.rangeLeft o.bm r = (leftOf es seen).size := by simp only [World.rangeLeft, hes', hr.out]
      have hm9 : w9.rangeLeft o.bm r = (leftOf es (seen.push e.born)).size := by simp only [World.rangeLeft, (hb9.block _ hbm).trans hes0, hr9]
      unfold msC at hrun9
      have HO9 : Hid (w9.ownsRow w.heap.size 56 6 v' (n + (Vd ++ [e]).length) (encM A.st A.P ++ entC (Vd ++ [e]))) := by
        show World.ownsRow _ _ _ _ _ _ _
        rw [hent9, ← List.append_assoc, List.length_append, ← Nat.add_assoc]
        exact own9
      have hfin : v'.ownBlock ≠ some r ∧ r < w9.heap.size ∧ v' ≠ .slice none 0 0 := ⟨by
        rcases hloc with h | h
        · rw [h]; exact hne
        · rw [h, hszB]; intro e; have := Option.some.inj e; omega, by omega, fun h => hnl (hnil.1 h).1⟩
      have HM : Hid (w9.rangeLeft o.bm r < wr.rangeLeft o.bm r) := by show _ < _; rw [hm0, hm9]; exact hms
      have HF : Hid (v'.ownBlock ≠ some r ∧ r < w9.heap.size ∧ v' ≠ .slice none 0 0) := hfin
      clear own9 hent9 HPm HO ownB newB hbB hloc hnil hgr ownN hbN hrn hbn hbel hr hes' hs9 hszn hszB hm0 hm9 hms hfin hlen9 hval hvs hl0 hstp hkeys hvals hst hVl hlt hc0 he hn hz hGe hit own7 hB7
      go_wp2_with (at_builtin; refine wpList_append_run rfl _ _ _ rfl _ _ _ rfl rfl hrun9 ?_)
      go_roundw
      case rel => exact ⟨Vd ++ [e], seen.push e.born, clock, hr9, Nat.le_refl _, HO9, HP9, HF.out.1, HF.out.2.1, HF.out.2.2, hb9⟩
      case measure => exact HM.out
end Go.Proofs.Ytilahfomiofgcaa
