/- QueueApart's drawn regions: a row grows by one, queues are stored into their boxes. -/
import Derived.Test.YtkgehbonijpdnaaUApS
namespace Go.Proofs.Ytkgehbonijpdnaa
open Go.RowKit
set_option maxRecDepth 100000

/-- one more, made just before: where the row lies then -/
theorem gstep_at {t e : TypeId} {size bytes : Nat} {z : Value} (E0 : Elt t e size bytes z) {ops : Array Oper} {o : Oper} {a : Act} {w : World} {K : Act → World → Prop} {Q : Exit → Act → World → Prop} {E : Prop} (hgd : o.guard = none) (s x : Operand)
    (hop : o.op = .call { callee := .builtin .append, args := #[s, x], argTypes := #[t, t] }) (base : Nat) (v : Value) (n : Nat) (xs ys : List Value) (g : Nat)
    (hs : a.eval s = v) (hx : a.eval x = .slice (some ⟨g, 0, none⟩) 1 1) (hown : w.ownsRow base e size v n xs) (hu : ∀ j y, ys[j]? = some y → w.cell? ⟨g, j, none⟩ = some y) (hyl : ys.length = size) (h1 : ∀ y ∈ ys, y.oneCell' = true) (hl : n ≤ 100000) (hbase : base ≤ w.heap.size)
    (hK : ∀ v' w', w'.ownsRow base e size v' (n + 1) (xs ++ ys) → Chg (fun b => v.ownBlock = some b) w w' → (v'.ownBlock = v.ownBlock ∨ v'.ownBlock = some w.heap.size) → K (a.put o.dst v') w') :
    if Region.wanted o (yielded ops a.tmps) = true then Oper.wp Try.prog o a w K Q else E := by
  obtain ⟨i0, hi, hz0, hz1, hz2⟩ := info_parts E0.hi
  rw [if_pos (by simp [Region.wanted, hgd])]
  have h64 : (n + 1) * bytes ≤ 140737488355328 := by
    have := Nat.mul_le_mul (show n + 1 ≤ 100001 by omega) E0.hb
    omega
  obtain ⟨v', w3, hrun, hown', hgrow, _, hloc⟩ := run_append_own_at (P := Try.prog) (w := w) base t o.type e i0 z size bytes E0.ht hi hz0 hz1 hz2 E0.hz E0.hs v n xs hown ⟨g, 0, none⟩ 1 1 ys (by omega) (fun j y h => by rw [Go.WideShapes.add_plain, Nat.zero_add]; exact hu j y h) h1 (by unfold maxLen; omega) h64 hbase
  unfold Oper.wp
  simp [execOp, hop, resolve, invoke, builtin, hs, hx, hrun, Result.andThen]
  exact hK v' w3 hown' (Chg.grown hgrow) hloc
theorem gstep_skip {ops : Array Oper} {o : Oper} {a : Act} {w w' : World} {K : Act → World → Prop} {Q : Exit → Act → World → Prop} {E : Prop} (hgd : o.guard = none) (hd : o.dst = none) (hrun : (execOp a.eval o).run Try.prog w = .ok .skip w') (h : K a w') :
    if Region.wanted o (yielded ops a.tmps) = true then Oper.wp Try.prog o a w K Q else E := by
  rw [if_pos (by simp [Region.wanted, hgd])]
  unfold Oper.wp
  rw [hrun]
  show K (a.put o.dst undef) w'
  rw [hd]
  exact h
theorem run_stq {o : Oper} {t1 t2 P na nb ca cb : Nat} {a1 a2 : Option Addr} {u1 u2 : Value} (hop : o.op = .store 30 (.tmp t1) (.tmp t2)) (b : Act) (W : World) (h1 : b.tmps[t1]? = some (.pointer (some ⟨P, 0, none⟩))) (h2 : b.tmps[t2]? = some (.agg #[.slice a1 na ca, .slice a2 nb cb])) (hk : Blk W P 30 [u1, u2]) : (execOp b.eval o).run Try.prog W = .ok .skip ((W.setCell ⟨P, 0, none⟩ (.slice a1 na ca)).setCell ⟨P, 1, none⟩ (.slice a2 nb cb)) := by
  obtain ⟨d, op, ty, pos, aft, gd⟩ := o
  simp only at hop
  subst hop
  obtain ⟨q0, q1⟩ := hk.bx.two
  have q2 := hk.fz
  have q3 := hk.lt
  clear hk
  go_simp
theorem run_ac1 {o : Oper} {t : Nat} {x : Int × Int × Int} (hop : o.op = .buildSlice 34 1 #[(0, .tmp t)]) (a : Act) (W : World) (hx : a.tmps[t]? = some (.agg #[.int .i64 x.1, .int .i64 x.2.1, .int .i64 x.2.2])) : (execOp a.eval o).run Try.prog W = .ok (.value (.slice (some ⟨W.heap.size, 0, none⟩) 1 1)) (W.alloc (.cells [.int .i64 x.1, .int .i64 x.2.1, .int .i64 x.2.2].toArray 47)) := by
  obtain ⟨d, op, ty, pos, aft, gd⟩ := o
  simp only at hop
  subst hop
  go_simp
theorem run_am1 {o : Oper} {t : Nat} {x : PMs} (hop : o.op = .buildSlice 28 1 #[(0, .tmp t)]) (a : Act) (W : World) (hx : a.tmps[t]? = some (.agg #[.int .i64 x.ln, .int .i64 x.ep, .int .i64 x.n, .int .u64 x.pay])) : (execOp a.eval o).run Try.prog W = .ok (.value (.slice (some ⟨W.heap.size, 0, none⟩) 1 1)) (W.alloc (.cells [.int .i64 x.ln, .int .i64 x.ep, .int .i64 x.n, .int .u64 x.pay].toArray 44)) := by
  obtain ⟨d, op, ty, pos, aft, gd⟩ := o
  simp only at hop
  subst hop
  go_simp
theorem run_as {o : Oper} {d : Nat} {v : Value} (hop : o.op = .assign (.tmp d)) (b : Act) (W : World) (h : b.tmps[d]? = some v) : (execOp b.eval o).run Try.prog W = .ok (.value v) W := by simp [execOp, hop, geval h]
theorem sl_form {w : World} {s n : Nat} {c : Nat → Nat → Value} {v : Value} (h : Sl w s n c v) : ∃ a m cap, v = .slice a m cap := by
  obtain ⟨a, cap, rfl, _⟩ := h
  exact ⟨_, _, _, rfl⟩
set_option maxHeartbeats 2000000 in
theorem ap_region28 {id : Nat} {Q : Exit → Act → World → Prop} {a : Act} {w : World} {l1 : List Oper} {o0 o1 o2 o3 o4 o5 o6 o7 o8 : Oper} {w0 : World} {PA PB bp bq bx : Nat} {ql qm pl pm vo vt v : Value} {ula uma : Option Addr} {uln ulc umn umc : Nat} {A B A' : Qu} {VA VB V1 : Nat → Value} {mn ot : List (Int × Int × Int)} {tk : List PMs} {x : Int × Int × Int} {rla rma : Option Addr} {rln rlc rmn rmc : Nat} {B' : Qu} {V2 : Nat → Value} (hl1 : l1.take 9 = [o0, o1, o2, o3, o4, o5, o6, o7, o8]) (hlast : l1.drop 9 = [])
    (hok : tailOk (l1.take 9) (l1.drop 9) = true) (hns : Region.noSelect [o0, o1, o2, o3, o4, o5, o6, o7, o8].toArray = true) (htk : takesOk [o0, o1, o2, o3, o4, o5, o6, o7, o8].toArray [0, 1, 2, 3] (Array.replicate 9 false) = true)
    (p0 : o0.op = .load 30 (.tmp 20)) (p1 : o1.op = .load 30 (.tmp 23)) (p2 : o2.op = .move (.tmp 15)) (p3 : o3.op = .load 47 (.tmp 21)) (p4 : o4.op = .buildSlice 34 1 #[(0, .tmp 147)]) (p5 : o5.op = .call { callee := .builtin .append, args := #[.tmp 146, .tmp 148], argTypes := #[34, 34] }) (p6 : o6.op = .store 30 (.tmp 11) (.tmp 144)) (p7 : o7.op = .store 30 (.tmp 13) (.tmp 145)) (p8 : o8.op = .assign (.tmp 149))
    (g4 : o4.guard = none) (g5 : o5.guard = none) (g6 : o6.guard = none) (g7 : o7.guard = none) (g8 : o8.guard = none)
    (t0 : o0.dst = some 144) (t1 : o1.dst = some 145) (t2 : o2.dst = some 146) (t3 : o3.dst = some 147) (t4 : o4.dst = some 148) (t5 : o5.dst = some 149) (t6 : o6.dst = none) (t7 : o7.dst = none) (t8 : o8.dst = some 15)
    (hsz : a.tmps.size = 353)
    (hp : a.tmps[20]? = some (.pointer (some ⟨bp, 0, none⟩))) (hq : a.tmps[23]? = some (.pointer (some ⟨bq, 0, none⟩))) (hv : a.tmps[15]? = some v) (hx : a.tmps[21]? = some (.pointer (some ⟨bx, 0, none⟩))) (h11 : a.tmps[11]? = some (.pointer (some ⟨PA, 0, none⟩))) (h13 : a.tmps[13]? = some (.pointer (some ⟨PB, 0, none⟩)))
    (kp : Blk w bp 30 [.slice ula uln ulc, .slice uma umn umc]) (kq : Blk w bq 30 [.slice rla rln rlc, .slice rma rmn rmc]) (kx : Blk w bx 47 [.int .i64 x.1, .int .i64 x.2.1, .int .i64 x.2.2]) (n1 : bp ≠ PA ∧ bp ≠ PB ∧ v.ownBlock ≠ some bp) (n2 : bq ≠ PA ∧ bq ≠ PB ∧ v.ownBlock ≠ some bq) (n3 : bx ≠ PA ∧ bx ≠ PB ∧ v.ownBlock ≠ some bx)
    (hj : AJ w0 w PA PB ql qm pl pm v vo vt A B VA VB (mn) ot tk) (hqi : QIs w (.slice ula uln ulc) (.slice uma umn umc) A' V1) (hqs : QSep (.slice ula uln ulc) (.slice uma umn umc) A' V1 v) (hri : QIs w (.slice rla rln rlc) (.slice rma rmn rmc) B' V2) (hrs : QSep (.slice rla rln rlc) (.slice rma rmn rmc) B' V2 v) (hln : mn.length ≤ 1000)
    (rs0 : Region.ready .any [o0, o1, o2, o3, o4, o5, o6, o7, o8].toArray (#[true, true, true, true, false, false, false, false, false] : Array Bool) = [4]) (rs1 : Region.ready .any [o0, o1, o2, o3, o4, o5, o6, o7, o8].toArray ((#[true, true, true, true, false, false, false, false, false] : Array Bool).setIfInBounds 4 true) = [5]) (rs2 : Region.ready .any [o0, o1, o2, o3, o4, o5, o6, o7, o8].toArray (((#[true, true, true, true, false, false, false, false, false] : Array Bool).setIfInBounds 4 true).setIfInBounds 5 true) = [6]) (rs3 : Region.ready .any [o0, o1, o2, o3, o4, o5, o6, o7, o8].toArray ((((#[true, true, true, true, false, false, false, false, false] : Array Bool).setIfInBounds 4 true).setIfInBounds 5 true).setIfInBounds 6 true) = [7]) (rs4 : Region.ready .any [o0, o1, o2, o3, o4, o5, o6, o7, o8].toArray (((((#[true, true, true, true, false, false, false, false, false] : Array Bool).setIfInBounds 4 true).setIfInBounds 5 true).setIfInBounds 6 true).setIfInBounds 7 true) = [8]) (rs5 : Region.ready .any [o0, o1, o2, o3, o4, o5, o6, o7, o8].toArray ((((((#[true, true, true, true, false, false, false, false, false] : Array Bool).setIfInBounds 4 true).setIfInBounds 5 true).setIfInBounds 6 true).setIfInBounds 7 true).setIfInBounds 8 true) = [])
    (hQ : ∀ c a d v w, Q (.panic c) (Act.put a d v) w → Q (.panic c) a w)
    (fin : ∀ vA v' W, AJ w0 W PA PB ql qm pl pm v' vo vt A B VA VB (mn ++ [x]) ot tk → QIs W (.slice ula uln ulc) (.slice uma umn umc) A' V1 → QIs W (.slice rla rln rlc) (.slice rma rmn rmc) B' V2 → (v'.ownBlock = v.ownBlock ∨ ∃ b, v'.ownBlock = some b ∧ w.heap.size ≤ b) → Q .normal (((((((a.put (some 144) (.agg #[.slice ula uln ulc, .slice uma umn umc])).put (some 145) (.agg #[.slice rla rln rlc, .slice rma rmn rmc])).put (some 146) (v)).put (some 147) (.agg #[.int .i64 x.1, .int .i64 x.2.1, .int .i64 x.2.2])).put (some 148) vA).put (some 149) v').put (some 15) v') ((((W.setCell ⟨PA, 0, none⟩ (.slice ula uln ulc)).setCell ⟨PA, 1, none⟩ (.slice uma umn umc)).setCell ⟨PB, 0, none⟩ (.slice rla rln rlc)).setCell ⟨PB, 1, none⟩ (.slice rma rmn rmc))) :
    (Code.region id l1.toArray true).wp Try.prog Q a w := by
  obtain ⟨af, haf⟩ : ∃ af, af = ((((a.put (some 144) (.agg #[.slice ula uln ulc, .slice uma umn umc])).put (some 145) (.agg #[.slice rla rln rlc, .slice rma rmn rmc])).put (some 146) (v)).put (some 147) (.agg #[.int .i64 x.1, .int .i64 x.2.1, .int .i64 x.2.2])) := ⟨_, rfl⟩
  rw [← haf] at fin
  have fsz : af.tmps.size = 353 := by rw [haf]; simp only [gput_sz]; exact hsz
  have fp : af.tmps[20]? = some (.pointer (some ⟨bp, 0, none⟩)) := by rw [haf]; rw [gput_ne (by decide), gput_ne (by decide), gput_ne (by decide), gput_ne (by decide)]; exact hp
  have fv : af.tmps[15]? = some (v) := by rw [haf]; rw [gput_ne (by decide), gput_ne (by decide), gput_ne (by decide), gput_ne (by decide)]; exact hv
  have fx : af.tmps[21]? = some (.pointer (some ⟨bx, 0, none⟩)) := by rw [haf]; rw [gput_ne (by decide), gput_ne (by decide), gput_ne (by decide), gput_ne (by decide)]; exact hx
  have f11 : af.tmps[11]? = some (.pointer (some ⟨PA, 0, none⟩)) := by rw [haf]; rw [gput_ne (by decide), gput_ne (by decide), gput_ne (by decide), gput_ne (by decide)]; exact h11
  have fq : af.tmps[23]? = some (.pointer (some ⟨bq, 0, none⟩)) := by rw [haf]; rw [gput_ne (by decide), gput_ne (by decide), gput_ne (by decide), gput_ne (by decide)]; exact hq
  have f13 : af.tmps[13]? = some (.pointer (some ⟨PB, 0, none⟩)) := by rw [haf]; rw [gput_ne (by decide), gput_ne (by decide), gput_ne (by decide), gput_ne (by decide)]; exact h13
  have f144 : af.tmps[144]? = some (.agg #[.slice ula uln ulc, .slice uma umn umc]) := by rw [haf]; rw [gput_ne (by decide), gput_ne (by decide), gput_ne (by decide), gput_at (by first | (rw [hsz]; decide) | (simp only [gput_sz]; rw [hsz]; decide))]
  have f145 : af.tmps[145]? = some (.agg #[.slice rla rln rlc, .slice rma rmn rmc]) := by rw [haf]; rw [gput_ne (by decide), gput_ne (by decide), gput_at (by first | (rw [hsz]; decide) | (simp only [gput_sz]; rw [hsz]; decide))]
  have f146 : af.tmps[146]? = some (v) := by rw [haf]; rw [gput_ne (by decide), gput_at (by first | (rw [hsz]; decide) | (simp only [gput_sz]; rw [hsz]; decide))]
  have f147 : af.tmps[147]? = some (.agg #[.int .i64 x.1, .int .i64 x.2.1, .int .i64 x.2.2]) := by rw [haf]; rw [gput_at (by first | (rw [hsz]; decide) | (simp only [gput_sz]; rw [hsz]; decide))]
  have HS : Chg (fun b => b = PA ∨ b = PB ∨ v.ownBlock = some b) w w.drew := ⟨rfl, rfl, rfl, Nat.le_refl _, fun _ _ _ => rfl⟩
  have sp : ∀ W, Chg (fun b => b = PA ∨ b = PB ∨ v.ownBlock = some b) w W → Blk W bp 30 [.slice ula uln ulc, .slice uma umn umc] := fun W hW => kp.same (hW.block _ kp.lt (by rintro (e | e | e); exact n1.1 e; exact n1.2.1 e; exact n1.2.2 e))
  have sq : ∀ W, Chg (fun b => b = PA ∨ b = PB ∨ v.ownBlock = some b) w W → Blk W bq 30 [.slice rla rln rlc, .slice rma rmn rmc] := fun W hW => kq.same (hW.block _ kq.lt (by rintro (e | e | e); exact n2.1 e; exact n2.2.1 e; exact n2.2.2 e))
  have sx : ∀ W, Chg (fun b => b = PA ∨ b = PB ∨ v.ownBlock = some b) w W → Blk W bx 47 [.int .i64 x.1, .int .i64 x.2.1, .int .i64 x.2.2] := fun W hW => kx.same (hW.block _ kx.lt (by rintro (e | e | e); exact n3.1 e; exact n3.2.1 e; exact n3.2.2 e))
  refine wp_region_tail 9 (fun W => Chg (fun b => b = PA ∨ b = PB ∨ v.ownBlock = some b) w W) (by kernel_rfl) hok ?_
  rw [hl1, hlast]
  have hput : putIdx af [o0, o1, o2, o3, o4, o5, o6, o7, o8].toArray [0, 1, 2, 3] a = af := by
    have e : putIdx af [o0, o1, o2, o3, o4, o5, o6, o7, o8].toArray [0, 1, 2, 3] a = ((((a.put (some 144) (.agg #[.slice ula uln ulc, .slice uma umn umc])).put (some 145) (.agg #[.slice rla rln rlc, .slice rma rmn rmc])).put (some 146) (v)).put (some 147) (.agg #[.int .i64 x.1, .int .i64 x.2.1, .int .i64 x.2.2])) := by
      simp only [putIdx, List.getElem?_toArray, List.getElem?_cons_succ, List.getElem?_cons_zero, Option.bind_some, t0, t1, t2, t3, ggetD f144, ggetD f145, ggetD f146, ggetD f147]
    rw [e, haf]
  refine takes (P := Try.prog) (Q := tailQ Try.prog Q []) (S := fun W => Chg (fun b => b = PA ∨ b = PB ∨ v.ownBlock = some b) w W) (idx := [0, 1, 2, 3]) (af := af) (fuel := 5) hns (fun c a d v w h => hQ c a d v w h) HS _ _ htk hput ?_ ?_
  · refine ⟨⟨o0, 144, _, rfl, t0, f144, ?_⟩, ⟨o1, 145, _, rfl, t1, f145, ?_⟩, ⟨o2, 146, _, rfl, t2, f146, ?_⟩, ⟨o3, 147, _, rfl, t3, f147, ?_⟩, trivial⟩
    · intro W hW
      obtain ⟨q0, q1⟩ := (sp W hW).bx.two
      obtain ⟨r0, r1⟩ := (sq W hW).bx.two
      obtain ⟨x0, x1, x2⟩ := (sx W hW).bx.three
      have l1' := (sp W hW).lt
      have l2' := (sq W hW).lt
      have l3' := (sx W hW).lt
      clear fin haf hput htk hns hok fsz hsz hQ hj hqi hqs sp sx sq hri hrs rs0 rs1 rs2 rs3 rs4 rs5
      obtain ⟨d, op, ty, pos, aft, gd⟩ := o0
      simp only at p0
      subst p0
      go_simp
    · intro W hW
      obtain ⟨q0, q1⟩ := (sp W hW).bx.two
      obtain ⟨r0, r1⟩ := (sq W hW).bx.two
      obtain ⟨x0, x1, x2⟩ := (sx W hW).bx.three
      have l1' := (sp W hW).lt
      have l2' := (sq W hW).lt
      have l3' := (sx W hW).lt
      clear fin haf hput htk hns hok fsz hsz hQ hj hqi hqs sp sx sq hri hrs rs0 rs1 rs2 rs3 rs4 rs5
      obtain ⟨d, op, ty, pos, aft, gd⟩ := o1
      simp only at p1
      subst p1
      go_simp
    · intro W hW
      obtain ⟨q0, q1⟩ := (sp W hW).bx.two
      obtain ⟨r0, r1⟩ := (sq W hW).bx.two
      obtain ⟨x0, x1, x2⟩ := (sx W hW).bx.three
      have l1' := (sp W hW).lt
      have l2' := (sq W hW).lt
      have l3' := (sx W hW).lt
      clear fin haf hput htk hns hok fsz hsz hQ hj hqi hqs sp sx sq hri hrs rs0 rs1 rs2 rs3 rs4 rs5
      obtain ⟨d, op, ty, pos, aft, gd⟩ := o2
      simp only at p2
      subst p2
      go_simp
    · intro W hW
      obtain ⟨q0, q1⟩ := (sp W hW).bx.two
      obtain ⟨r0, r1⟩ := (sq W hW).bx.two
      obtain ⟨x0, x1, x2⟩ := (sx W hW).bx.three
      have l1' := (sp W hW).lt
      have l2' := (sq W hW).lt
      have l3' := (sx W hW).lt
      clear fin haf hput htk hns hok fsz hsz hQ hj hqi hqs sp sx sq hri hrs rs0 rs1 rs2 rs3 rs4 rs5
      obtain ⟨d, op, ty, pos, aft, gd⟩ := o3
      simp only at p3
      subst p3
      go_simp
  have em : markIdx [0, 1, 2, 3] (Array.replicate [o0, o1, o2, o3, o4, o5, o6, o7, o8].length false) = #[true, true, true, true, false, false, false, false, false] := by kernel_rfl
  rw [em]
  have hW1 : Chg (fun b => b = PA ∨ b = PB ∨ v.ownBlock = some b) w (w.drew.alloc (.cells [.int .i64 x.1, .int .i64 x.2.1, .int .i64 x.2.2].toArray 47)) := Chg.of ((Below.refl _ _).drew.alloc (Nat.le_refl _) _)
  have hb1 : Below w.heap.size w (w.drew.alloc (.cells [.int .i64 x.1, .int .i64 x.2.1, .int .i64 x.2.2].toArray 47)) := (Below.refl _ _).drew.alloc (Nat.le_refl _) _
  have hj1 := hj.grow hb1
  have hk1 := blk_new w.drew [.int .i64 x.1, .int .i64 x.2.1, .int .i64 x.2.2] 47
  refine wpAnyH_ready rs0 (by simp) (AllReadyH.cons (o := o4) rfl (fun K hK => ?_) AllReadyH.nil)
  refine gstep_run g4 (run_ac1 p4 af w.drew f147) ?_
  refine hK.out _ _ hW1 fun _ => ?_
  rw [t4]
  have zA : (af.put (some 148) (.slice (some ⟨w.drew.heap.size, 0, none⟩) 1 1)).tmps[148]? = some (.slice (some ⟨w.drew.heap.size, 0, none⟩) 1 1) := gput_at (by rw [fsz]; decide)
  have zr : (af.put (some 148) (.slice (some ⟨w.drew.heap.size, 0, none⟩) 1 1)).tmps[146]? = some v := by rw [gput_ne (by decide)]; exact f146
  have zp : (af.put (some 148) (.slice (some ⟨w.drew.heap.size, 0, none⟩) 1 1)).tmps[144]? = some (.agg #[.slice ula uln ulc, .slice uma umn umc]) := by rw [gput_ne (by decide)]; exact f144
  have z11 : (af.put (some 148) (.slice (some ⟨w.drew.heap.size, 0, none⟩) 1 1)).tmps[11]? = some (.pointer (some ⟨PA, 0, none⟩)) := by rw [gput_ne (by decide)]; exact f11
  have zsz : (af.put (some 148) (.slice (some ⟨w.drew.heap.size, 0, none⟩) 1 1)).tmps.size = 353 := by rw [gput_sz]; exact fsz
  have zq : (af.put (some 148) (.slice (some ⟨w.drew.heap.size, 0, none⟩) 1 1)).tmps[145]? = some (.agg #[.slice rla rln rlc, .slice rma rmn rmc]) := by rw [gput_ne (by decide)]; exact f145
  have z13 : (af.put (some 148) (.slice (some ⟨w.drew.heap.size, 0, none⟩) 1 1)).tmps[13]? = some (.pointer (some ⟨PB, 0, none⟩)) := by rw [gput_ne (by decide)]; exact f13
  have fin2 := fin (.slice (some ⟨w.drew.heap.size, 0, none⟩) 1 1)
  generalize af.put (some 148) (.slice (some ⟨w.drew.heap.size, 0, none⟩) 1 1) = b1 at *
  have hsz1 : w.heap.size ≤ (w.drew.alloc (.cells [.int .i64 x.1, .int .i64 x.2.1, .int .i64 x.2.2].toArray 47)).heap.size := hb1.size
  have hqi1 := hqi.below hb1
  have hri1 := hri.below hb1
  have hkc : ∀ j y, [.int .i64 x.1, .int .i64 x.2.1, .int .i64 x.2.2][j]? = some y → (w.drew.alloc (.cells [.int .i64 x.1, .int .i64 x.2.1, .int .i64 x.2.2].toArray 47)).cell? ⟨w.drew.heap.size, j, none⟩ = some y := fun j y h => hk1.bx j y h
  generalize w.drew.alloc (.cells [.int .i64 x.1, .int .i64 x.2.1, .int .i64 x.2.2].toArray 47) = W1 at *
  refine wpAnyH_ready rs1 (by simp) (AllReadyH.cons (o := o5) rfl (fun K hK => ?_) AllReadyH.nil)
  refine gstep_at eltC g5 (.tmp 146) (.tmp 148) p5 w0.heap.size v mn.length (mn.flatMap clC3) [.int .i64 x.1, .int .i64 x.2.1, .int .i64 x.2.2] w.drew.heap.size (geval zr) (geval zA) hj1.rm hkc rfl (by simp [Value.oneCell']) (by omega) hj1.bel.size fun v' W2 q1 q2 q3 => ?_
  have hl3 : v'.ownBlock = v.ownBlock ∨ ∃ b, v'.ownBlock = some b ∧ W1.heap.size ≤ b := q3.imp (fun h => h) fun e => ⟨_, e, Nat.le_refl _⟩
  have hW2 : Chg (fun b => b = PA ∨ b = PB ∨ v.ownBlock = some b) w W2 := hW1.trans ⟨q2.os, q2.tape, q2.output, q2.size, fun k hk hs => q2.block k hk fun e => hs (.inr (.inr e))⟩
  have hj2 := hj1.tellM (c := x) q1 q2 hl3
  have hqi2 := hqi1.chg q2 fun b e => hqs b e
  have hri2 := hri1.chg q2 fun b e => hrs b e
  refine hK.out _ _ hW2 fun _ => ?_
  rw [t5]
  have fin3 := fin2 v' W2 hj2 hqi2 hri2 (hl3.imp (fun h => h) fun ⟨b, e, h⟩ => ⟨b, e, Nat.le_trans hsz1 h⟩)
  have y1 : (b1.put (some 149) v').tmps[149]? = some v' := gput_at (by rw [zsz]; decide)
  have yp : (b1.put (some 149) v').tmps[144]? = some (.agg #[.slice ula uln ulc, .slice uma umn umc]) := by rw [gput_ne (by decide)]; exact zp
  have y11 : (b1.put (some 149) v').tmps[11]? = some (.pointer (some ⟨PA, 0, none⟩)) := by rw [gput_ne (by decide)]; exact z11
  have yq : (b1.put (some 149) v').tmps[145]? = some (.agg #[.slice rla rln rlc, .slice rma rmn rmc]) := by rw [gput_ne (by decide)]; exact zq
  have y13 : (b1.put (some 149) v').tmps[13]? = some (.pointer (some ⟨PB, 0, none⟩)) := by rw [gput_ne (by decide)]; exact z13
  generalize b1.put (some 149) v' = b2 at *
  refine wpAnyH_ready rs2 (by simp) (AllReadyH.cons (o := o6) rfl (fun K hK => ?_) AllReadyH.nil)
  refine gstep_skip g6 t6 (run_stq p6 b2 W2 y11 yp hj2.ba) ?_
  refine hK.out _ _ ((hW2.set (.inl rfl) _).set (.inl rfl) _) fun _ => ?_
  have kb3 : Blk ((W2.setCell ⟨PA, 0, none⟩ (.slice ula uln ulc)).setCell ⟨PA, 1, none⟩ (.slice uma umn umc)) PB 30 [pl, pm] := (hj2.bb.setO (Ne.symm hj2.ne) _).setO (Ne.symm hj2.ne) _
  refine wpAnyH_ready rs3 (by simp) (AllReadyH.cons (o := o7) rfl (fun K hK => ?_) AllReadyH.nil)
  refine gstep_skip g7 t7 (run_stq p7 b2 _ y13 yq kb3) ?_
  refine hK.out _ _ ((((hW2.set (.inl rfl) _).set (.inl rfl) _).set (.inr (.inl rfl)) _).set (.inr (.inl rfl)) _) fun _ => ?_
  refine wpAnyH_ready rs4 (by simp) (AllReadyH.cons (o := o8) rfl (fun K hK => ?_) AllReadyH.nil)
  refine gstep_run g8 (run_as p8 b2 _ y1) ?_
  refine hK.out _ _ ((((hW2.set (.inl rfl) _).set (.inl rfl) _).set (.inr (.inl rfl)) _).set (.inr (.inl rfl)) _) fun _ => ?_
  rw [t8]
  refine wpAnyH_done rs5 ?_ _
  refine tailQ_of _ _ _ ?_
  unfold tailWp
  exact fin3
set_option maxHeartbeats 2000000 in
theorem ap_region32 {id : Nat} {Q : Exit → Act → World → Prop} {a : Act} {w : World} {l1 : List Oper} {o0 o1 o2 o3 o4 o5 o6 : Oper} {w0 : World} {PA PB bp bx : Nat} {ql qm pl pm vm vt v : Value} {ula uma : Option Addr} {uln ulc umn umc : Nat} {A B A' : Qu} {VA VB V1 : Nat → Value} {mn ot : List (Int × Int × Int)} {tk : List PMs} {x : Int × Int × Int} (hl1 : l1.take 7 = [o0, o1, o2, o3, o4, o5, o6]) (hlast : l1.drop 7 = [])
    (hok : tailOk (l1.take 7) (l1.drop 7) = true) (hns : Region.noSelect [o0, o1, o2, o3, o4, o5, o6].toArray = true) (htk : takesOk [o0, o1, o2, o3, o4, o5, o6].toArray [0, 1, 2] (Array.replicate 7 false) = true)
    (p0 : o0.op = .load 30 (.tmp 26)) (p1 : o1.op = .move (.tmp 16)) (p2 : o2.op = .load 47 (.tmp 27)) (p3 : o3.op = .buildSlice 34 1 #[(0, .tmp 166)]) (p4 : o4.op = .call { callee := .builtin .append, args := #[.tmp 165, .tmp 167], argTypes := #[34, 34] }) (p5 : o5.op = .store 30 (.tmp 11) (.tmp 164)) (p6 : o6.op = .assign (.tmp 168))
    (g3 : o3.guard = none) (g4 : o4.guard = none) (g5 : o5.guard = none) (g6 : o6.guard = none)
    (t0 : o0.dst = some 164) (t1 : o1.dst = some 165) (t2 : o2.dst = some 166) (t3 : o3.dst = some 167) (t4 : o4.dst = some 168) (t5 : o5.dst = none) (t6 : o6.dst = some 16)
    (hsz : a.tmps.size = 353)
    (hp : a.tmps[26]? = some (.pointer (some ⟨bp, 0, none⟩))) (hv : a.tmps[16]? = some v) (hx : a.tmps[27]? = some (.pointer (some ⟨bx, 0, none⟩))) (h11 : a.tmps[11]? = some (.pointer (some ⟨PA, 0, none⟩)))
    (kp : Blk w bp 30 [.slice ula uln ulc, .slice uma umn umc]) (kx : Blk w bx 47 [.int .i64 x.1, .int .i64 x.2.1, .int .i64 x.2.2]) (n1 : bp ≠ PA ∧ bp ≠ PB ∧ v.ownBlock ≠ some bp) (n3 : bx ≠ PA ∧ bx ≠ PB ∧ v.ownBlock ≠ some bx)
    (hj : AJ w0 w PA PB ql qm pl pm vm v vt A B VA VB mn (ot) tk) (hqi : QIs w (.slice ula uln ulc) (.slice uma umn umc) A' V1) (hqs : QSep (.slice ula uln ulc) (.slice uma umn umc) A' V1 v) (hln : ot.length ≤ 1000)
    (rs0 : Region.ready .any [o0, o1, o2, o3, o4, o5, o6].toArray (#[true, true, true, false, false, false, false] : Array Bool) = [3]) (rs1 : Region.ready .any [o0, o1, o2, o3, o4, o5, o6].toArray ((#[true, true, true, false, false, false, false] : Array Bool).setIfInBounds 3 true) = [4]) (rs2 : Region.ready .any [o0, o1, o2, o3, o4, o5, o6].toArray (((#[true, true, true, false, false, false, false] : Array Bool).setIfInBounds 3 true).setIfInBounds 4 true) = [5]) (rs3 : Region.ready .any [o0, o1, o2, o3, o4, o5, o6].toArray ((((#[true, true, true, false, false, false, false] : Array Bool).setIfInBounds 3 true).setIfInBounds 4 true).setIfInBounds 5 true) = [6]) (rs4 : Region.ready .any [o0, o1, o2, o3, o4, o5, o6].toArray (((((#[true, true, true, false, false, false, false] : Array Bool).setIfInBounds 3 true).setIfInBounds 4 true).setIfInBounds 5 true).setIfInBounds 6 true) = [])
    (hQ : ∀ c a d v w, Q (.panic c) (Act.put a d v) w → Q (.panic c) a w)
    (fin : ∀ vA v' W, AJ w0 W PA PB ql qm pl pm vm v' vt A B VA VB mn (ot ++ [x]) tk → QIs W (.slice ula uln ulc) (.slice uma umn umc) A' V1 → (v'.ownBlock = v.ownBlock ∨ ∃ b, v'.ownBlock = some b ∧ w.heap.size ≤ b) → Q .normal ((((((a.put (some 164) (.agg #[.slice ula uln ulc, .slice uma umn umc])).put (some 165) (v)).put (some 166) (.agg #[.int .i64 x.1, .int .i64 x.2.1, .int .i64 x.2.2])).put (some 167) vA).put (some 168) v').put (some 16) v') ((W.setCell ⟨PA, 0, none⟩ (.slice ula uln ulc)).setCell ⟨PA, 1, none⟩ (.slice uma umn umc))) :
    (Code.region id l1.toArray true).wp Try.prog Q a w := by
  obtain ⟨af, haf⟩ : ∃ af, af = (((a.put (some 164) (.agg #[.slice ula uln ulc, .slice uma umn umc])).put (some 165) (v)).put (some 166) (.agg #[.int .i64 x.1, .int .i64 x.2.1, .int .i64 x.2.2])) := ⟨_, rfl⟩
  rw [← haf] at fin
  have fsz : af.tmps.size = 353 := by rw [haf]; simp only [gput_sz]; exact hsz
  have fp : af.tmps[26]? = some (.pointer (some ⟨bp, 0, none⟩)) := by rw [haf]; rw [gput_ne (by decide), gput_ne (by decide), gput_ne (by decide)]; exact hp
  have fv : af.tmps[16]? = some (v) := by rw [haf]; rw [gput_ne (by decide), gput_ne (by decide), gput_ne (by decide)]; exact hv
  have fx : af.tmps[27]? = some (.pointer (some ⟨bx, 0, none⟩)) := by rw [haf]; rw [gput_ne (by decide), gput_ne (by decide), gput_ne (by decide)]; exact hx
  have f11 : af.tmps[11]? = some (.pointer (some ⟨PA, 0, none⟩)) := by rw [haf]; rw [gput_ne (by decide), gput_ne (by decide), gput_ne (by decide)]; exact h11
  have f164 : af.tmps[164]? = some (.agg #[.slice ula uln ulc, .slice uma umn umc]) := by rw [haf]; rw [gput_ne (by decide), gput_ne (by decide), gput_at (by first | (rw [hsz]; decide) | (simp only [gput_sz]; rw [hsz]; decide))]
  have f165 : af.tmps[165]? = some (v) := by rw [haf]; rw [gput_ne (by decide), gput_at (by first | (rw [hsz]; decide) | (simp only [gput_sz]; rw [hsz]; decide))]
  have f166 : af.tmps[166]? = some (.agg #[.int .i64 x.1, .int .i64 x.2.1, .int .i64 x.2.2]) := by rw [haf]; rw [gput_at (by first | (rw [hsz]; decide) | (simp only [gput_sz]; rw [hsz]; decide))]
  have HS : Chg (fun b => b = PA ∨ b = PB ∨ v.ownBlock = some b) w w.drew := ⟨rfl, rfl, rfl, Nat.le_refl _, fun _ _ _ => rfl⟩
  have sp : ∀ W, Chg (fun b => b = PA ∨ b = PB ∨ v.ownBlock = some b) w W → Blk W bp 30 [.slice ula uln ulc, .slice uma umn umc] := fun W hW => kp.same (hW.block _ kp.lt (by rintro (e | e | e); exact n1.1 e; exact n1.2.1 e; exact n1.2.2 e))
  have sx : ∀ W, Chg (fun b => b = PA ∨ b = PB ∨ v.ownBlock = some b) w W → Blk W bx 47 [.int .i64 x.1, .int .i64 x.2.1, .int .i64 x.2.2] := fun W hW => kx.same (hW.block _ kx.lt (by rintro (e | e | e); exact n3.1 e; exact n3.2.1 e; exact n3.2.2 e))
  refine wp_region_tail 7 (fun W => Chg (fun b => b = PA ∨ b = PB ∨ v.ownBlock = some b) w W) (by kernel_rfl) hok ?_
  rw [hl1, hlast]
  have hput : putIdx af [o0, o1, o2, o3, o4, o5, o6].toArray [0, 1, 2] a = af := by
    have e : putIdx af [o0, o1, o2, o3, o4, o5, o6].toArray [0, 1, 2] a = (((a.put (some 164) (.agg #[.slice ula uln ulc, .slice uma umn umc])).put (some 165) (v)).put (some 166) (.agg #[.int .i64 x.1, .int .i64 x.2.1, .int .i64 x.2.2])) := by
      simp only [putIdx, List.getElem?_toArray, List.getElem?_cons_succ, List.getElem?_cons_zero, Option.bind_some, t0, t1, t2, ggetD f164, ggetD f165, ggetD f166]
    rw [e, haf]
  refine takes (P := Try.prog) (Q := tailQ Try.prog Q []) (S := fun W => Chg (fun b => b = PA ∨ b = PB ∨ v.ownBlock = some b) w W) (idx := [0, 1, 2]) (af := af) (fuel := 4) hns (fun c a d v w h => hQ c a d v w h) HS _ _ htk hput ?_ ?_
  · refine ⟨⟨o0, 164, _, rfl, t0, f164, ?_⟩, ⟨o1, 165, _, rfl, t1, f165, ?_⟩, ⟨o2, 166, _, rfl, t2, f166, ?_⟩, trivial⟩
    · intro W hW
      obtain ⟨q0, q1⟩ := (sp W hW).bx.two
      obtain ⟨x0, x1, x2⟩ := (sx W hW).bx.three
      have l1' := (sp W hW).lt
      have l3' := (sx W hW).lt
      clear fin haf hput htk hns hok fsz hsz hQ hj hqi hqs sp sx rs0 rs1 rs2 rs3 rs4
      obtain ⟨d, op, ty, pos, aft, gd⟩ := o0
      simp only at p0
      subst p0
      go_simp
    · intro W hW
      obtain ⟨q0, q1⟩ := (sp W hW).bx.two
      obtain ⟨x0, x1, x2⟩ := (sx W hW).bx.three
      have l1' := (sp W hW).lt
      have l3' := (sx W hW).lt
      clear fin haf hput htk hns hok fsz hsz hQ hj hqi hqs sp sx rs0 rs1 rs2 rs3 rs4
      obtain ⟨d, op, ty, pos, aft, gd⟩ := o1
      simp only at p1
      subst p1
      go_simp
    · intro W hW
      obtain ⟨q0, q1⟩ := (sp W hW).bx.two
      obtain ⟨x0, x1, x2⟩ := (sx W hW).bx.three
      have l1' := (sp W hW).lt
      have l3' := (sx W hW).lt
      clear fin haf hput htk hns hok fsz hsz hQ hj hqi hqs sp sx rs0 rs1 rs2 rs3 rs4
      obtain ⟨d, op, ty, pos, aft, gd⟩ := o2
      simp only at p2
      subst p2
      go_simp
  have em : markIdx [0, 1, 2] (Array.replicate [o0, o1, o2, o3, o4, o5, o6].length false) = #[true, true, true, false, false, false, false] := by kernel_rfl
  rw [em]
  have hW1 : Chg (fun b => b = PA ∨ b = PB ∨ v.ownBlock = some b) w (w.drew.alloc (.cells [.int .i64 x.1, .int .i64 x.2.1, .int .i64 x.2.2].toArray 47)) := Chg.of ((Below.refl _ _).drew.alloc (Nat.le_refl _) _)
  have hb1 : Below w.heap.size w (w.drew.alloc (.cells [.int .i64 x.1, .int .i64 x.2.1, .int .i64 x.2.2].toArray 47)) := (Below.refl _ _).drew.alloc (Nat.le_refl _) _
  have hj1 := hj.grow hb1
  have hk1 := blk_new w.drew [.int .i64 x.1, .int .i64 x.2.1, .int .i64 x.2.2] 47
  refine wpAnyH_ready rs0 (by simp) (AllReadyH.cons (o := o3) rfl (fun K hK => ?_) AllReadyH.nil)
  refine gstep_run g3 (run_ac1 p3 af w.drew f166) ?_
  refine hK.out _ _ hW1 fun _ => ?_
  rw [t3]
  have zA : (af.put (some 167) (.slice (some ⟨w.drew.heap.size, 0, none⟩) 1 1)).tmps[167]? = some (.slice (some ⟨w.drew.heap.size, 0, none⟩) 1 1) := gput_at (by rw [fsz]; decide)
  have zr : (af.put (some 167) (.slice (some ⟨w.drew.heap.size, 0, none⟩) 1 1)).tmps[165]? = some v := by rw [gput_ne (by decide)]; exact f165
  have zp : (af.put (some 167) (.slice (some ⟨w.drew.heap.size, 0, none⟩) 1 1)).tmps[164]? = some (.agg #[.slice ula uln ulc, .slice uma umn umc]) := by rw [gput_ne (by decide)]; exact f164
  have z11 : (af.put (some 167) (.slice (some ⟨w.drew.heap.size, 0, none⟩) 1 1)).tmps[11]? = some (.pointer (some ⟨PA, 0, none⟩)) := by rw [gput_ne (by decide)]; exact f11
  have zsz : (af.put (some 167) (.slice (some ⟨w.drew.heap.size, 0, none⟩) 1 1)).tmps.size = 353 := by rw [gput_sz]; exact fsz
  have fin2 := fin (.slice (some ⟨w.drew.heap.size, 0, none⟩) 1 1)
  generalize af.put (some 167) (.slice (some ⟨w.drew.heap.size, 0, none⟩) 1 1) = b1 at *
  have hsz1 : w.heap.size ≤ (w.drew.alloc (.cells [.int .i64 x.1, .int .i64 x.2.1, .int .i64 x.2.2].toArray 47)).heap.size := hb1.size
  have hqi1 := hqi.below hb1
  have hkc : ∀ j y, [.int .i64 x.1, .int .i64 x.2.1, .int .i64 x.2.2][j]? = some y → (w.drew.alloc (.cells [.int .i64 x.1, .int .i64 x.2.1, .int .i64 x.2.2].toArray 47)).cell? ⟨w.drew.heap.size, j, none⟩ = some y := fun j y h => hk1.bx j y h
  generalize w.drew.alloc (.cells [.int .i64 x.1, .int .i64 x.2.1, .int .i64 x.2.2].toArray 47) = W1 at *
  refine wpAnyH_ready rs1 (by simp) (AllReadyH.cons (o := o4) rfl (fun K hK => ?_) AllReadyH.nil)
  refine gstep_at eltC g4 (.tmp 165) (.tmp 167) p4 w0.heap.size v ot.length (ot.flatMap clC3) [.int .i64 x.1, .int .i64 x.2.1, .int .i64 x.2.2] w.drew.heap.size (geval zr) (geval zA) hj1.ro hkc rfl (by simp [Value.oneCell']) (by omega) hj1.bel.size fun v' W2 q1 q2 q3 => ?_
  have hl3 : v'.ownBlock = v.ownBlock ∨ ∃ b, v'.ownBlock = some b ∧ W1.heap.size ≤ b := q3.imp (fun h => h) fun e => ⟨_, e, Nat.le_refl _⟩
  have hW2 : Chg (fun b => b = PA ∨ b = PB ∨ v.ownBlock = some b) w W2 := hW1.trans ⟨q2.os, q2.tape, q2.output, q2.size, fun k hk hs => q2.block k hk fun e => hs (.inr (.inr e))⟩
  have hj2 := hj1.tellO (c := x) q1 q2 hl3
  have hqi2 := hqi1.chg q2 fun b e => hqs b e
  refine hK.out _ _ hW2 fun _ => ?_
  rw [t4]
  have fin3 := fin2 v' W2 hj2 hqi2 (hl3.imp (fun h => h) fun ⟨b, e, h⟩ => ⟨b, e, Nat.le_trans hsz1 h⟩)
  have y1 : (b1.put (some 168) v').tmps[168]? = some v' := gput_at (by rw [zsz]; decide)
  have yp : (b1.put (some 168) v').tmps[164]? = some (.agg #[.slice ula uln ulc, .slice uma umn umc]) := by rw [gput_ne (by decide)]; exact zp
  have y11 : (b1.put (some 168) v').tmps[11]? = some (.pointer (some ⟨PA, 0, none⟩)) := by rw [gput_ne (by decide)]; exact z11
  generalize b1.put (some 168) v' = b2 at *
  refine wpAnyH_ready rs2 (by simp) (AllReadyH.cons (o := o5) rfl (fun K hK => ?_) AllReadyH.nil)
  refine gstep_skip g5 t5 (run_stq p5 b2 W2 y11 yp hj2.ba) ?_
  refine hK.out _ _ ((hW2.set (.inl rfl) _).set (.inl rfl) _) fun _ => ?_
  refine wpAnyH_ready rs3 (by simp) (AllReadyH.cons (o := o6) rfl (fun K hK => ?_) AllReadyH.nil)
  refine gstep_run g6 (run_as p6 b2 _ y1) ?_
  refine hK.out _ _ ((hW2.set (.inl rfl) _).set (.inl rfl) _) fun _ => ?_
  rw [t6]
  refine wpAnyH_done rs4 ?_ _
  refine tailQ_of _ _ _ ?_
  unfold tailWp
  exact fin3
set_option maxHeartbeats 2000000 in
theorem ap_region55 {id : Nat} {Q : Exit → Act → World → Prop} {a : Act} {w : World} {l1 : List Oper} {o0 o1 o2 o3 o4 o5 o6 : Oper} {w0 : World} {PA PB bp bx : Nat} {ql qm pl pm vm vo v : Value} {ula uma : Option Addr} {uln ulc umn umc : Nat} {A B A' : Qu} {VA VB V1 : Nat → Value} {mn ot : List (Int × Int × Int)} {tk : List PMs} {x : PMs} (hl1 : l1.take 7 = [o0, o1, o2, o3, o4, o5, o6]) (hlast : l1.drop 7 = [])
    (hok : tailOk (l1.take 7) (l1.drop 7) = true) (hns : Region.noSelect [o0, o1, o2, o3, o4, o5, o6].toArray = true) (htk : takesOk [o0, o1, o2, o3, o4, o5, o6].toArray [0, 1, 2] (Array.replicate 7 false) = true)
    (p0 : o0.op = .load 30 (.tmp 40)) (p1 : o1.op = .move (.tmp 17)) (p2 : o2.op = .load 44 (.tmp 41)) (p3 : o3.op = .buildSlice 28 1 #[(0, .tmp 296)]) (p4 : o4.op = .call { callee := .builtin .append, args := #[.tmp 295, .tmp 297], argTypes := #[28, 28] }) (p5 : o5.op = .store 30 (.tmp 11) (.tmp 294)) (p6 : o6.op = .assign (.tmp 298))
    (g3 : o3.guard = none) (g4 : o4.guard = none) (g5 : o5.guard = none) (g6 : o6.guard = none)
    (t0 : o0.dst = some 294) (t1 : o1.dst = some 295) (t2 : o2.dst = some 296) (t3 : o3.dst = some 297) (t4 : o4.dst = some 298) (t5 : o5.dst = none) (t6 : o6.dst = some 17)
    (hsz : a.tmps.size = 353)
    (hp : a.tmps[40]? = some (.pointer (some ⟨bp, 0, none⟩))) (hv : a.tmps[17]? = some v) (hx : a.tmps[41]? = some (.pointer (some ⟨bx, 0, none⟩))) (h11 : a.tmps[11]? = some (.pointer (some ⟨PA, 0, none⟩)))
    (kp : Blk w bp 30 [.slice ula uln ulc, .slice uma umn umc]) (kx : Blk w bx 44 [.int .i64 x.ln, .int .i64 x.ep, .int .i64 x.n, .int .u64 x.pay]) (n1 : bp ≠ PA ∧ bp ≠ PB ∧ v.ownBlock ≠ some bp) (n3 : bx ≠ PA ∧ bx ≠ PB ∧ v.ownBlock ≠ some bx)
    (hj : AJ w0 w PA PB ql qm pl pm vm vo v A B VA VB mn ot (tk)) (hqi : QIs w (.slice ula uln ulc) (.slice uma umn umc) A' V1) (hqs : QSep (.slice ula uln ulc) (.slice uma umn umc) A' V1 v) (hln : tk.length ≤ 1000)
    (rs0 : Region.ready .any [o0, o1, o2, o3, o4, o5, o6].toArray (#[true, true, true, false, false, false, false] : Array Bool) = [3]) (rs1 : Region.ready .any [o0, o1, o2, o3, o4, o5, o6].toArray ((#[true, true, true, false, false, false, false] : Array Bool).setIfInBounds 3 true) = [4]) (rs2 : Region.ready .any [o0, o1, o2, o3, o4, o5, o6].toArray (((#[true, true, true, false, false, false, false] : Array Bool).setIfInBounds 3 true).setIfInBounds 4 true) = [5]) (rs3 : Region.ready .any [o0, o1, o2, o3, o4, o5, o6].toArray ((((#[true, true, true, false, false, false, false] : Array Bool).setIfInBounds 3 true).setIfInBounds 4 true).setIfInBounds 5 true) = [6]) (rs4 : Region.ready .any [o0, o1, o2, o3, o4, o5, o6].toArray (((((#[true, true, true, false, false, false, false] : Array Bool).setIfInBounds 3 true).setIfInBounds 4 true).setIfInBounds 5 true).setIfInBounds 6 true) = [])
    (hQ : ∀ c a d v w, Q (.panic c) (Act.put a d v) w → Q (.panic c) a w)
    (fin : ∀ vA v' W, AJ w0 W PA PB ql qm pl pm vm vo v' A B VA VB mn ot (tk ++ [x]) → QIs W (.slice ula uln ulc) (.slice uma umn umc) A' V1 → (v'.ownBlock = v.ownBlock ∨ ∃ b, v'.ownBlock = some b ∧ w.heap.size ≤ b) → Q .normal ((((((a.put (some 294) (.agg #[.slice ula uln ulc, .slice uma umn umc])).put (some 295) (v)).put (some 296) (.agg #[.int .i64 x.ln, .int .i64 x.ep, .int .i64 x.n, .int .u64 x.pay])).put (some 297) vA).put (some 298) v').put (some 17) v') ((W.setCell ⟨PA, 0, none⟩ (.slice ula uln ulc)).setCell ⟨PA, 1, none⟩ (.slice uma umn umc))) :
    (Code.region id l1.toArray true).wp Try.prog Q a w := by
  obtain ⟨af, haf⟩ : ∃ af, af = (((a.put (some 294) (.agg #[.slice ula uln ulc, .slice uma umn umc])).put (some 295) (v)).put (some 296) (.agg #[.int .i64 x.ln, .int .i64 x.ep, .int .i64 x.n, .int .u64 x.pay])) := ⟨_, rfl⟩
  rw [← haf] at fin
  have fsz : af.tmps.size = 353 := by rw [haf]; simp only [gput_sz]; exact hsz
  have fp : af.tmps[40]? = some (.pointer (some ⟨bp, 0, none⟩)) := by rw [haf]; rw [gput_ne (by decide), gput_ne (by decide), gput_ne (by decide)]; exact hp
  have fv : af.tmps[17]? = some (v) := by rw [haf]; rw [gput_ne (by decide), gput_ne (by decide), gput_ne (by decide)]; exact hv
  have fx : af.tmps[41]? = some (.pointer (some ⟨bx, 0, none⟩)) := by rw [haf]; rw [gput_ne (by decide), gput_ne (by decide), gput_ne (by decide)]; exact hx
  have f11 : af.tmps[11]? = some (.pointer (some ⟨PA, 0, none⟩)) := by rw [haf]; rw [gput_ne (by decide), gput_ne (by decide), gput_ne (by decide)]; exact h11
  have f294 : af.tmps[294]? = some (.agg #[.slice ula uln ulc, .slice uma umn umc]) := by rw [haf]; rw [gput_ne (by decide), gput_ne (by decide), gput_at (by first | (rw [hsz]; decide) | (simp only [gput_sz]; rw [hsz]; decide))]
  have f295 : af.tmps[295]? = some (v) := by rw [haf]; rw [gput_ne (by decide), gput_at (by first | (rw [hsz]; decide) | (simp only [gput_sz]; rw [hsz]; decide))]
  have f296 : af.tmps[296]? = some (.agg #[.int .i64 x.ln, .int .i64 x.ep, .int .i64 x.n, .int .u64 x.pay]) := by rw [haf]; rw [gput_at (by first | (rw [hsz]; decide) | (simp only [gput_sz]; rw [hsz]; decide))]
  have HS : Chg (fun b => b = PA ∨ b = PB ∨ v.ownBlock = some b) w w.drew := ⟨rfl, rfl, rfl, Nat.le_refl _, fun _ _ _ => rfl⟩
  have sp : ∀ W, Chg (fun b => b = PA ∨ b = PB ∨ v.ownBlock = some b) w W → Blk W bp 30 [.slice ula uln ulc, .slice uma umn umc] := fun W hW => kp.same (hW.block _ kp.lt (by rintro (e | e | e); exact n1.1 e; exact n1.2.1 e; exact n1.2.2 e))
  have sx : ∀ W, Chg (fun b => b = PA ∨ b = PB ∨ v.ownBlock = some b) w W → Blk W bx 44 [.int .i64 x.ln, .int .i64 x.ep, .int .i64 x.n, .int .u64 x.pay] := fun W hW => kx.same (hW.block _ kx.lt (by rintro (e | e | e); exact n3.1 e; exact n3.2.1 e; exact n3.2.2 e))
  refine wp_region_tail 7 (fun W => Chg (fun b => b = PA ∨ b = PB ∨ v.ownBlock = some b) w W) (by kernel_rfl) hok ?_
  rw [hl1, hlast]
  have hput : putIdx af [o0, o1, o2, o3, o4, o5, o6].toArray [0, 1, 2] a = af := by
    have e : putIdx af [o0, o1, o2, o3, o4, o5, o6].toArray [0, 1, 2] a = (((a.put (some 294) (.agg #[.slice ula uln ulc, .slice uma umn umc])).put (some 295) (v)).put (some 296) (.agg #[.int .i64 x.ln, .int .i64 x.ep, .int .i64 x.n, .int .u64 x.pay])) := by
      simp only [putIdx, List.getElem?_toArray, List.getElem?_cons_succ, List.getElem?_cons_zero, Option.bind_some, t0, t1, t2, ggetD f294, ggetD f295, ggetD f296]
    rw [e, haf]
  refine takes (P := Try.prog) (Q := tailQ Try.prog Q []) (S := fun W => Chg (fun b => b = PA ∨ b = PB ∨ v.ownBlock = some b) w W) (idx := [0, 1, 2]) (af := af) (fuel := 4) hns (fun c a d v w h => hQ c a d v w h) HS _ _ htk hput ?_ ?_
  · refine ⟨⟨o0, 294, _, rfl, t0, f294, ?_⟩, ⟨o1, 295, _, rfl, t1, f295, ?_⟩, ⟨o2, 296, _, rfl, t2, f296, ?_⟩, trivial⟩
    · intro W hW
      obtain ⟨q0, q1⟩ := (sp W hW).bx.two
      obtain ⟨x0, x1, x2, x3⟩ := (sx W hW).bx.four
      have l1' := (sp W hW).lt
      have l3' := (sx W hW).lt
      clear fin haf hput htk hns hok fsz hsz hQ hj hqi hqs sp sx rs0 rs1 rs2 rs3 rs4
      obtain ⟨d, op, ty, pos, aft, gd⟩ := o0
      simp only at p0
      subst p0
      go_simp
    · intro W hW
      obtain ⟨q0, q1⟩ := (sp W hW).bx.two
      obtain ⟨x0, x1, x2, x3⟩ := (sx W hW).bx.four
      have l1' := (sp W hW).lt
      have l3' := (sx W hW).lt
      clear fin haf hput htk hns hok fsz hsz hQ hj hqi hqs sp sx rs0 rs1 rs2 rs3 rs4
      obtain ⟨d, op, ty, pos, aft, gd⟩ := o1
      simp only at p1
      subst p1
      go_simp
    · intro W hW
      obtain ⟨q0, q1⟩ := (sp W hW).bx.two
      obtain ⟨x0, x1, x2, x3⟩ := (sx W hW).bx.four
      have l1' := (sp W hW).lt
      have l3' := (sx W hW).lt
      clear fin haf hput htk hns hok fsz hsz hQ hj hqi hqs sp sx rs0 rs1 rs2 rs3 rs4
      obtain ⟨d, op, ty, pos, aft, gd⟩ := o2
      simp only at p2
      subst p2
      go_simp
  have em : markIdx [0, 1, 2] (Array.replicate [o0, o1, o2, o3, o4, o5, o6].length false) = #[true, true, true, false, false, false, false] := by kernel_rfl
  rw [em]
  have hW1 : Chg (fun b => b = PA ∨ b = PB ∨ v.ownBlock = some b) w (w.drew.alloc (.cells [.int .i64 x.ln, .int .i64 x.ep, .int .i64 x.n, .int .u64 x.pay].toArray 44)) := Chg.of ((Below.refl _ _).drew.alloc (Nat.le_refl _) _)
  have hb1 : Below w.heap.size w (w.drew.alloc (.cells [.int .i64 x.ln, .int .i64 x.ep, .int .i64 x.n, .int .u64 x.pay].toArray 44)) := (Below.refl _ _).drew.alloc (Nat.le_refl _) _
  have hj1 := hj.grow hb1
  have hk1 := blk_new w.drew [.int .i64 x.ln, .int .i64 x.ep, .int .i64 x.n, .int .u64 x.pay] 44
  refine wpAnyH_ready rs0 (by simp) (AllReadyH.cons (o := o3) rfl (fun K hK => ?_) AllReadyH.nil)
  refine gstep_run g3 (run_am1 p3 af w.drew f296) ?_
  refine hK.out _ _ hW1 fun _ => ?_
  rw [t3]
  have zA : (af.put (some 297) (.slice (some ⟨w.drew.heap.size, 0, none⟩) 1 1)).tmps[297]? = some (.slice (some ⟨w.drew.heap.size, 0, none⟩) 1 1) := gput_at (by rw [fsz]; decide)
  have zr : (af.put (some 297) (.slice (some ⟨w.drew.heap.size, 0, none⟩) 1 1)).tmps[295]? = some v := by rw [gput_ne (by decide)]; exact f295
  have zp : (af.put (some 297) (.slice (some ⟨w.drew.heap.size, 0, none⟩) 1 1)).tmps[294]? = some (.agg #[.slice ula uln ulc, .slice uma umn umc]) := by rw [gput_ne (by decide)]; exact f294
  have z11 : (af.put (some 297) (.slice (some ⟨w.drew.heap.size, 0, none⟩) 1 1)).tmps[11]? = some (.pointer (some ⟨PA, 0, none⟩)) := by rw [gput_ne (by decide)]; exact f11
  have zsz : (af.put (some 297) (.slice (some ⟨w.drew.heap.size, 0, none⟩) 1 1)).tmps.size = 353 := by rw [gput_sz]; exact fsz
  have fin2 := fin (.slice (some ⟨w.drew.heap.size, 0, none⟩) 1 1)
  generalize af.put (some 297) (.slice (some ⟨w.drew.heap.size, 0, none⟩) 1 1) = b1 at *
  have hsz1 : w.heap.size ≤ (w.drew.alloc (.cells [.int .i64 x.ln, .int .i64 x.ep, .int .i64 x.n, .int .u64 x.pay].toArray 44)).heap.size := hb1.size
  have hqi1 := hqi.below hb1
  have hkc : ∀ j y, [.int .i64 x.ln, .int .i64 x.ep, .int .i64 x.n, .int .u64 x.pay][j]? = some y → (w.drew.alloc (.cells [.int .i64 x.ln, .int .i64 x.ep, .int .i64 x.n, .int .u64 x.pay].toArray 44)).cell? ⟨w.drew.heap.size, j, none⟩ = some y := fun j y h => hk1.bx j y h
  generalize w.drew.alloc (.cells [.int .i64 x.ln, .int .i64 x.ep, .int .i64 x.n, .int .u64 x.pay].toArray 44) = W1 at *
  refine wpAnyH_ready rs1 (by simp) (AllReadyH.cons (o := o4) rfl (fun K hK => ?_) AllReadyH.nil)
  refine gstep_at eltM g4 (.tmp 295) (.tmp 297) p4 w0.heap.size v tk.length (tk.flatMap msC4) [.int .i64 x.ln, .int .i64 x.ep, .int .i64 x.n, .int .u64 x.pay] w.drew.heap.size (geval zr) (geval zA) hj1.rt hkc rfl (by simp [Value.oneCell']) (by omega) hj1.bel.size fun v' W2 q1 q2 q3 => ?_
  have hl3 : v'.ownBlock = v.ownBlock ∨ ∃ b, v'.ownBlock = some b ∧ W1.heap.size ≤ b := q3.imp (fun h => h) fun e => ⟨_, e, Nat.le_refl _⟩
  have hW2 : Chg (fun b => b = PA ∨ b = PB ∨ v.ownBlock = some b) w W2 := hW1.trans ⟨q2.os, q2.tape, q2.output, q2.size, fun k hk hs => q2.block k hk fun e => hs (.inr (.inr e))⟩
  have hj2 := hj1.tellT (m := x) q1 q2 hl3
  have hqi2 := hqi1.chg q2 fun b e => hqs b e
  refine hK.out _ _ hW2 fun _ => ?_
  rw [t4]
  have fin3 := fin2 v' W2 hj2 hqi2 (hl3.imp (fun h => h) fun ⟨b, e, h⟩ => ⟨b, e, Nat.le_trans hsz1 h⟩)
  have y1 : (b1.put (some 298) v').tmps[298]? = some v' := gput_at (by rw [zsz]; decide)
  have yp : (b1.put (some 298) v').tmps[294]? = some (.agg #[.slice ula uln ulc, .slice uma umn umc]) := by rw [gput_ne (by decide)]; exact zp
  have y11 : (b1.put (some 298) v').tmps[11]? = some (.pointer (some ⟨PA, 0, none⟩)) := by rw [gput_ne (by decide)]; exact z11
  generalize b1.put (some 298) v' = b2 at *
  refine wpAnyH_ready rs2 (by simp) (AllReadyH.cons (o := o5) rfl (fun K hK => ?_) AllReadyH.nil)
  refine gstep_skip g5 t5 (run_stq p5 b2 W2 y11 yp hj2.ba) ?_
  refine hK.out _ _ ((hW2.set (.inl rfl) _).set (.inl rfl) _) fun _ => ?_
  refine wpAnyH_ready rs3 (by simp) (AllReadyH.cons (o := o6) rfl (fun K hK => ?_) AllReadyH.nil)
  refine gstep_run g6 (run_as p6 b2 _ y1) ?_
  refine hK.out _ _ ((hW2.set (.inl rfl) _).set (.inl rfl) _) fun _ => ?_
  rw [t6]
  refine wpAnyH_done rs4 ?_ _
  refine tailQ_of _ _ _ ?_
  unfold tailWp
  exact fin3
end Go.Proofs.Ytkgehbonijpdnaa
