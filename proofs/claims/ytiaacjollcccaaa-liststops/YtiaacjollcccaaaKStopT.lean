/- A list told to the yield of ListStops, as far as it asks. -/
import Derived.Test.YtiaacjollcccaaaKStops
namespace Go.Proofs.Ytiaacjollcccaaa
open Go.RowKit Go.Shelf
attribute [local go_sem] Oper.semAt_some

/-- what is left of a list behind j rounds -/
def leftL (d : Bool) (r : List Nat) (j : Nat) : List Nat := if d then r.drop j else r

theorem stops1_k (C B5 B7 B4 : Nat) (d : Bool) (mo : Int) (o : Pl) (n m : Nat) (R : Nat → List Nat) (k : Nat) (hk : k < m) (r : List Nat) (v : Value) (j base : Nat) (W : World) (hv : Boxed W C 36 v) (hrow : W.ownsRow base 3 1 v j (encL (r.take j))) (hbase : base ≤ W.heap.size) (hj : j < r.length) (hl : r.length ≤ 100000)
    (hB : Bxs W C B5 B7 B4 d mo o base) (hK : Kv W o n m R) (hR : R k = leftL d r j) :
    Calls Try.prog 15 #[.int .i64 (atL r j), .pointer (some ⟨C, 0, none⟩), .pointer (some ⟨B5, 0, none⟩), .pointer (some ⟨B7, 0, none⟩), .pointer (some ⟨B4, 0, none⟩)] W fun e W' => e = .returned (.bool (decide ((j : Int) + 1 < mo))) ∧ ∃ v' R', Boxed W' C 36 v' ∧ W'.ownsRow base 3 1 v' (j + 1) (encL (r.take (j + 1))) ∧ Kv W' o n m R' ∧ R' k = leftL d r (j + 1) ∧ But (fun b => b = C ∨ o.has b ∨ base ≤ b) W W' := by
  rw [take_enc hj]
  cases d
  · refine (stops1_f C B5 B7 B4 mo o n m R _ v j _ base W hv hrow hbase (by omega) hB hK).mono ?_
    rintro e w ⟨rfl, v', h1, h2, h3, h4⟩
    exact ⟨rfl, v', R, h1, h2, h3, hR, h4⟩
  · refine (stops1_t C B5 B7 B4 mo o n m R _ v j _ base W hv hrow hbase (by omega) hB hK).mono ?_
    rintro e w ⟨rfl, v', h1, h2, h3, h4⟩
    refine ⟨rfl, v', _, h1, h2, h3, ?_, h4⟩
    refine dropR_head hK hk (x := r.getD j 0) (l := r.drop (j + 1)) ?_
    rw [hR]
    show r.drop j = _
    rw [List.drop_eq_getElem_cons hj]
    simp [List.getD, hj]

theorem eql_stops_nil (C B5 B7 B4 : Nat) (w : World) : Sem.run Try.prog (binOp BinOp.eql 41 (Value.func (Fn.func 15) #[] #[.pointer (some ⟨C, 0, none⟩), .pointer (some ⟨B5, 0, none⟩), .pointer (some ⟨B7, 0, none⟩), .pointer (some ⟨B4, 0, none⟩)]) Value.nilFunc) w = .ok (.bool false) w := by kernel_rfl

set_option maxHeartbeats 4000000 in
theorem tell_stops (C B5 B7 B4 B1 B2 B3 : Nat) (d : Bool) (mo : Nat) (hmo : 1 ≤ mo) (o : Pl) (n m : Nat) (R : Nat → List Nat) (k : Nat) (hk : k < m) (hn : n < 80) (r : List Nat) (hRk : R k = r) (W : World)
    (b1 : Boxed W B1 23 o.ptr) (b2 : Boxed W B2 3 (.int .i64 (k : Int))) (b3 : Boxed W B3 43 (.func (.func 40) #[o.ptr] #[])) (hK : Kv W o n m R) (bC : Boxed W C 36 (.slice none 0 0)) (hB : Bxs W C B5 B7 B4 d (mo : Int) o W.heap.size) :
    Calls Try.prog 57 #[.func (.func 15) #[] #[.pointer (some ⟨C, 0, none⟩), .pointer (some ⟨B5, 0, none⟩), .pointer (some ⟨B7, 0, none⟩), .pointer (some ⟨B4, 0, none⟩)], .pointer (some ⟨B1, 0, none⟩), .pointer (some ⟨B2, 0, none⟩), .pointer (some ⟨B3, 0, none⟩)] W fun e W' =>
      e = .returned (.tuple #[]) ∧ ∃ v R', Boxed W' C 36 v ∧ W'.ownsRow W.heap.size 3 1 v (min r.length mo) (encL (r.take (min r.length mo))) ∧ Kv W' o n m R' ∧ R' k = leftL d r (min r.length mo) ∧ But (fun b => b = C ∨ o.has b) W W' := by
  obtain ⟨s, rfl, rfl, hKx, hi⟩ := hK
  have HV : Hid (Kv W o s.n s.m R) := ⟨s, rfl, rfl, hKx, hi⟩
  have HBx : Hid (Bxs W C B5 B7 B4 d (mo : Int) o W.heap.size) := hB
  have HR0 : Hid (R k = r) := hRk
  have hr : Nxt s.bh (s.n + k) (s.n + k) r := hRk ▸ nxt_fwd (hi.ring k hk)
  have nd : r.Nodup := hRk ▸ hi.nod k hk
  have hlt : ∀ x, x ∈ r → x < s.n := fun x hx => hi.rng k hk x (hRk ▸ hx)
  have hlen : r.length < 80 := by have := len_le nd hlt; omega
  clear hB hi hRk
  have hnil := eql_stops_nil C B5 B7 B4
  have c1 := b1.cell
  have c2 := b2.cell
  have c3 := b3.cell
  have hl := hasList_k o s (k : Int) W hKx
  rw [show inR s.m (k : Int) = true from inR_iff.2 (by omega)] at hl
  have HK : Hid (Kx W o s) := hKx
  have hCl := bC.lt
  obtain ⟨r0, hr0⟩ := lift_nd hlt
  have HR : Hid (Nxt s.bh (s.n + k) (s.n + k) (nat r0)) := hr0 ▸ hr
  have HN : Hid ((nat r0).Nodup) := hr0 ▸ nd
  have HE : Hid (nat r0 = r) := hr0
  clear hr0
  clear hKx hr nd hlt b1 b2 b3
  go_enter Try.func57, Try.ntmps57
  go_wp2_with fail
  refine hl.mono ?_
  rintro e w1 ⟨rfl, e1⟩
  subst e1
  go_wp2_with fail
  refine (walk_any _ _ _ _ _ _).mono ?_
  rintro e w2 ⟨rfl, hw2⟩
  have hB2 : Below w1.heap.size w1 w2 := by rw [hw2]; exact (((Below.refl _ w1).alloc (Nat.le_refl _) _).alloc (by simp) _).alloc (by simp; omega) _
  have HW : Hid (WkOk w1.heap.size (w1.heap.size + 1) (w1.heap.size + 1 + 1) o s k (.func (.func 40) #[o.ptr] #[]) w2) := by
    refine ⟨?_, ?_, ?_, s, HK.out.below hB2, rfl, rfl, rfl, rfl⟩
    · rw [hw2]; exact ((Boxed.new w1 _ _).alloc _).alloc _
    · rw [hw2]
      have := Boxed.new (w1.alloc (.cells #[o.ptr] 23)) 3 (.int .i64 (k : Int))
      rw [World.size_alloc] at this
      exact this.alloc _
    · rw [hw2]
      have := Boxed.new ((w1.alloc (.cells #[o.ptr] 23)).alloc (.cells #[.int .i64 (k : Int)] 3)) 43 (.func (.func 40) #[o.ptr] #[])
      rw [World.size_alloc, World.size_alloc] at this
      exact this
  clear hw2 hnil c1 c2 c3 hl
  go_wp2_with fail
  refine (collectwalkB _ _ _ o s k hk r0 HR.out HN.out (by rw [← nat_len, HE.out]; omega) w2 HW.out).mono ?_
  rintro e w3 ⟨v, rfl, hrow, hb3⟩
  rw [← nat_len, HE.out] at hrow
  obtain ⟨a, cap, rfl, hcells, hge⟩ := cells_of_own hrow (k := .i64) (z := atL r) (fun j hj => encL_at2 hj)
  have HC : Hid (Cells w3 .i64 a r.length (atL r)) := hcells
  have HG : Hid (∀ b o p, a = some ⟨b, o, p⟩ → w2.heap.size ≤ b) := hge
  have hB3 : Below w1.heap.size w1 w3 := Below.onto hB2 hb3
  have bC3 : Boxed w3 C 36 (.slice none 0 0) := (hB3.block C hCl).trans bC
  have hsz := hB2.size
  clear hcells hge hrow HW
  have HV3 : Hid (Kv w3 o s.n s.m R) := HV.out.below hB3
  have HB3 : Hid (Bxs w3 C B5 B7 B4 d (mo : Int) o w3.heap.size) := by
    have h := HBx.out
    have hz := hB3.size
    exact ⟨(hB3.block _ h.b5.lt).trans h.b5, (hB3.block _ h.b7.lt).trans h.b7, (hB3.block _ h.b4.lt).trans h.b4, ⟨h.n5.1, h.n5.2.1, Nat.lt_of_lt_of_le h.n5.2.2 hz⟩, ⟨h.n7.1, h.n7.2.1, Nat.lt_of_lt_of_le h.n7.2.2 hz⟩, ⟨h.n4.1, h.n4.2.1, Nat.lt_of_lt_of_le h.n4.2.2 hz⟩, ⟨h.nC.1, Nat.lt_of_lt_of_le h.nC.2 hz⟩, fun b hb => Nat.lt_of_lt_of_le (h.no b hb) hz⟩
  have HNO : Hid (∀ b, o.has b → b < w1.heap.size) := HBx.out.no
  clear HV HBx
  go_wp2_with fail
  go_loopw [21] (fun i wr => ∃ j : Nat, j ≤ r.length ∧ j < mo ∧ i = .int .i64 j ∧ Hid (∃ v R', Boxed wr C 36 v ∧ wr.ownsRow w3.heap.size 3 1 v j (encL (r.take j)) ∧ Kv wr o s.n s.m R' ∧ R' k = leftL d r j ∧ But (fun b => b = C ∨ o.has b) w3 wr)) (fun i _ => r.length - (intOf i).toNat)
  case atStart => exact ⟨0, Nat.zero_le _, hmo, rfl, _, R, bC3, World.ownsRow_nil _ _ _ _, HV3.out, by rw [HR0.out]; cases d <;> simp [leftL], But.refl _ _⟩
  case round =>
    obtain ⟨j, hj, hjm, rfl, hJ⟩ := hrel
    obtain ⟨v, R1, hv, hown, hkv, hR1, hbut⟩ := hJ.out
    by_cases hlt : j < r.length
    · obtain ⟨b, off, rfl, hcell⟩ := HC.out j hlt
      have hb1 := HG.out b off none rfl
      have hcell2 := hbut.cell hcell (by rintro (e | e); omega; have := HNO.out b e; omega)
      have hw := hbut.size
      have hbx : Bxs wr C B5 B7 B4 d (mo : Int) o w3.heap.size := HB3.out.but (hbut.mono fun i h => h.elim .inl fun h => .inr (.inl h))
      have hcall := stops1_k C B5 B7 B4 d (mo : Int) o s.n s.m R1 k hk r v j w3.heap.size wr hv hown hw hlt (by omega) hbx hkv hR1
      have HB : Hid (But (fun b => b = C ∨ o.has b) w3 wr) := hbut
      clear hcell hv hown hJ hbut hkv hR1 hbx
      by_cases hmj : j + 1 < mo
      · rw [show decide ((j : Int) + 1 < (mo : Int)) = true from by simp; omega] at hcall
        go_wp2_with fail
        refine hcall.mono ?_
        rintro e w4 ⟨rfl, v', R', hv', hown', hkv', hR', hbut'⟩
        have HJ : Hid (∃ v R', Boxed w4 C 36 v ∧ w4.ownsRow w3.heap.size 3 1 v (j + 1) (encL (r.take (j + 1))) ∧ Kv w4 o s.n s.m R' ∧ R' k = leftL d r (j + 1) ∧ But (fun b => b = C ∨ o.has b) w3 w4) := ⟨v', R', hv', hown', hkv', hR', HB.out.onto hbut' fun i h => by rcases h with h | h | h; exact .inl (.inl h); exact .inl (.inr h); exact .inr h⟩
        clear hv' hown' hbut' hkv' hR' hcall
        go_wp2_with fail
        go_roundw
        case rel => exact ⟨j + 1, by omega, hmj, by go_num, HJ.out⟩
        case measure => simp [intOf]; omega
      · rw [show decide ((j : Int) + 1 < (mo : Int)) = false from by simp; omega] at hcall
        have HM : Hid (min r.length mo = j + 1) := by show min _ _ = _; omega
        go_wp2_with fail
        refine hcall.mono ?_
        rintro e w4 ⟨rfl, v', R', hv', hown', hkv', hR', hbut'⟩
        have HJ : Hid (∃ v R', Boxed w4 C 36 v ∧ w4.ownsRow w1.heap.size 3 1 v (j + 1) (encL (r.take (j + 1))) ∧ Kv w4 o s.n s.m R' ∧ R' k = leftL d r (j + 1) ∧ But (fun b => b = C ∨ o.has b) w1 w4) := ⟨v', R', hv', own_mono hown' (Nat.le_trans hsz hb3.size), hkv', hR', (But.of hB3 : But (fun b => b = C ∨ o.has b) w1 w3).trans (HB.out.onto hbut' fun i h => by rcases h with h | h | h; exact .inl (.inl h); exact .inl (.inr h); exact .inr h)⟩
        clear hv' hown' hbut' hkv' hR' hcall
        go_wp2_with fail
        refine bodyPost_ret (results_none rfl _ _ _) rfl ?_
        rw [HM.out]
        exact ⟨rfl, HJ.out⟩
    · obtain rfl : j = r.length := by omega
      have HM : Hid (min r.length mo = r.length) := by show min _ _ = _; omega
      go_wp2_with fail
      refine bodyPost_end (results_none rfl _ _ _) rfl ?_
      rw [HM.out]
      exact ⟨rfl, v, R1, hv, own_mono hown (Nat.le_trans hsz hb3.size), hkv, hR1, (But.of hB3 : But (fun b => b = C ∨ o.has b) w1 w3).trans hbut⟩

end Go.Proofs.Ytiaacjollcccaaa
