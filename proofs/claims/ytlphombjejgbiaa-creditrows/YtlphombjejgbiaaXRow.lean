/- Channels with lanes, rows of accounts, in memory; cut. -/
import Derived.Test.YtlphombjejgbiaaPOwn
import Derived.Test.YtlphombjejgbiaaXOpen
namespace Go.Proofs.Ytlphombjejgbiaa
open Go.RowKit Go.Sort Go.Shelf
set_option maxRecDepth 100000

/-- a channel: its label, its lanes' slice, its receivers' slice; its lanes -/
structure Cw where
  lb : Int
  la : Option Addr
  ln : Nat
  lc : Nat
  ra : Option Addr
  rn : Nat
  rc : Nat
  f : Nat → Xl
def cwV (c : Cw) : Nat → Value
  | 0 => .int .i64 c.lb
  | 1 => .slice c.la c.ln c.lc
  | _ => .slice c.ra c.rn c.rc
def cwL (c : Cw) : List Value := [.int .i64 c.lb, .slice c.la c.ln c.lc, .slice c.ra c.rn c.rc]
def Chs (w : World) (a : Option Addr) (n : Nat) (C : Nat → Cw) : Prop := Rd w a n 3 (fun j => cwV (C j)) ∧ ∀ j, j < n → Rd w (C j).la (C j).ln 3 (fun i => encXl ((C j).f i)) ∧ (C j).ln ≤ (C j).lc
/-- a row of accounts -/
structure Aw where
  a : Option Addr
  n : Nat
  c : Nat
  g : Nat → Ac
def awV (x : Aw) : Value := .slice x.a x.n x.c
def Rws (w : World) (a : Option Addr) (n : Nat) (A : Nat → Aw) : Prop := Rd w a n 1 (fun j _ => awV (A j)) ∧ ∀ j, j < n → Rd w (A j).a (A j).n 3 (fun i => encAc ((A j).g i))
theorem Chs.below {w w' : World} {a : Option Addr} {n : Nat} {C : Nat → Cw} (h : Chs w a n C) (hb : Below w.heap.size w w') : Chs w' a n C := ⟨h.1.below hb, fun j hj => ⟨(h.2 j hj).1.below hb, (h.2 j hj).2⟩⟩
theorem Rws.below {w w' : World} {a : Option Addr} {n : Nat} {A : Nat → Aw} (h : Rws w a n A) (hb : Below w.heap.size w w') : Rws w' a n A := ⟨h.1.below hb, fun j hj => (h.2 j hj).below hb⟩
theorem rd_at {w : World} {a : Option Addr} {n s : Nat} {c : Nat → Nat → Value} (h : Rd w a n s c) {j : Nat} (hj : j < n) : ∃ b off, a = some ⟨b, off, none⟩ ∧ ∀ f, f < s → w.cell? ⟨b, off + j * s + f, none⟩ = some (c j f) := h j hj
/-- what is looked at -/
def cutC (C : Nat → Cw) (j : Nat) : Cw := { C j with ln := min (C j).ln 12 }
def encCw (C : Nat → Cw) (n : Nat) : List Value := (List.range n).flatMap fun j => cwL (cutC C j)
theorem encCw_succ (C : Nat → Cw) (n : Nat) : encCw C (n + 1) = encCw C n ++ cwL (cutC C n) := by simp [encCw, List.range_succ]
theorem encCw_len (C : Nat → Cw) (n : Nat) : (encCw C n).length = n * 3 := by
  induction n with
  | zero => rfl
  | succ n ih => rw [encCw_succ, List.length_append, ih]; simp [cwL]; omega
theorem encCw_at (C : Nat → Cw) : ∀ n j, j < n → ∀ f, f < 3 → (encCw C n)[j * 3 + f]? = some (cwV (cutC C j) f) := by
  intro n
  induction n with
  | zero => intro j hj; omega
  | succ n ih =>
    intro j hj f hf
    rw [encCw_succ]
    by_cases e : j < n
    · rw [List.getElem?_append_left (by rw [encCw_len]; omega)]
      exact ih j e f hf
    · obtain rfl : j = n := by omega
      rw [List.getElem?_append_right (by rw [encCw_len]; omega), encCw_len, show j * 3 + f - j * 3 = f by omega]
      rcases (show f = 0 ∨ f = 1 ∨ f = 2 by omega) with rfl | rfl | rfl <;> rfl
theorem eltCw : Elt 41 85 3 56 (.agg #[.int .i64 0, .slice none 0 0, .slice none 0 0]) := ⟨Try.underlying41, by kernel_rfl, rfl, by decide, by decide⟩
theorem slice_lanes (a : Option Addr) (n q cap : Nat) (hq : q ≤ cap) (W : World) : (Instr.slice 82 (.slice a n cap) none (some (.int .i64 (q : Int))) none).run Try.prog W = .ok (.slice a q cap) W := by
  have hs : ∀ w, (sizeOf (Try.prog.elem 82)).run Try.prog w = .ok 3 w := fun w => by kernel_rfl
  rw [run_slice_h _ 82 a n cap (by kernel_rfl) .i64 q (by omega) (by omega), hs]
  cases a with
  | none => simp [sliced, Result.andThen]
  | some x => simp only [sliced, Result.andThen, Option.map_some, Nat.zero_mul, Nat.sub_zero, Int.toNat_natCast]; split <;> rfl
set_option maxHeartbeats 4000000 in
theorem cut_any (a : Option Addr) (n cap : Nat) (C : Nat → Cw) (w : World) (hs : Chs w a n C) (hn : n ≤ 9223372036854775807) :
    Calls Try.prog 13 #[.slice a n cap] w fun e w' => ∃ a' cap', e = .returned (.slice a' (min n 12) cap') ∧ Chs w' a' (min n 12) (cutC C) ∧ Below w.heap.size w w' := by
  have HS : Hid (Chs w a n C) := hs
  clear hs
  go_enter Try.func13, Try.ntmps13
  go_wp2_with fail
  go_loopw [3, 4] (fun vo vi wr => ∃ (i : Nat) (v : Value), i ≤ n ∧ i ≤ 12 ∧ vi = .int .i64 i ∧ vo = v ∧ Hid (wr.ownsRow w.heap.size 85 3 v i (encCw C i) ∧ Below w.heap.size w wr)) (fun _ vi _ => 12 - (intOf vi).toNat)
  case atStart => exact ⟨0, _, Nat.zero_le _, by omega, rfl, rfl, World.ownsRow_nil _ _ _ _, Below.refl _ _⟩
  case round =>
    obtain ⟨i, v, hi, h12, rfl, rfl, HR⟩ := hrel
    obtain ⟨va, vcap, hvf, hv1, hv2⟩ := pown_form HR.out.1
    subst hvf
    clear hv1 hv2
    by_cases hlt : i < n ∧ i < 12
    · obtain ⟨hlt, h12'⟩ := hlt
      obtain ⟨b, off, rfl, hcell⟩ := rd_at (HS.out.below HR.out.2).1 hlt
      have k0 : wr.cell? ⟨b, off + i * 3, none⟩ = some (.int .i64 (C i).lb) := hcell 0 (by omega)
      have k1 : wr.cell? ⟨b, off + i * 3 + 1, none⟩ = some (.slice (C i).la (C i).ln (C i).lc) := hcell 1 (by omega)
      have k2 : wr.cell? ⟨b, off + i * 3 + 2, none⟩ = some (.slice (C i).ra (C i).rn (C i).rc) := hcell 2 (by omega)
      have hle : (C i).ln ≤ (C i).lc := (HS.out.2 i hlt).2
      have hsuc := encCw_succ C i
      have hcw : cwL (cutC C i) = [.int .i64 (C i).lb, .slice (C i).la (min (C i).ln 12) (C i).lc, .slice (C i).ra (C i).rn (C i).rc] := rfl
      have HE : Hid (encCw C (i + 1) = encCw C i ++ [.int .i64 (C i).lb, .slice (C i).la (min (C i).ln 12) (C i).lc, .slice (C i).ra (C i).rn (C i).rc]) := by rw [← hcw]; exact hsuc
      clear hcell hsuc hcw
      generalize (C i).lb = lb at *
      generalize (C i).la = la at *
      generalize (C i).lc = lc at *
      generalize (C i).ra = ra at *
      generalize (C i).rn = rn at *
      generalize (C i).rc = rc at *
      generalize (C i).ln = ln at *
      have fin : ∀ (W : World) (ln' : Nat), ln' = min ln 12 → Below w.heap.size w W → W.ownsRow w.heap.size 85 3 (.slice va i vcap) i (encCw C i) → ∃ a2 c2 w4, (Builtin.append_ #[41, 41] 41 #[.slice va i vcap, .slice (some ⟨W.heap.size, 0, none⟩) 1 1]).run Try.prog (W.alloc (.cells #[.int .i64 lb, .slice la ln' lc, .slice ra rn rc] 85)) = .ok (.slice a2 (i + 1) c2) w4 ∧ Hid (w4.ownsRow w.heap.size 85 3 (.slice a2 (i + 1) c2) (i + 1) (encCw C (i + 1)) ∧ Below w.heap.size w w4) := by
        intro W ln' hl hB ho
        obtain ⟨v2, w4, h1, h2, _, h4⟩ := psnoc eltCw 41 w.heap.size _ i _ [.int .i64 lb, .slice la ln' lc, .slice ra rn rc] ho rfl (by simp [Value.oneCell']) (by omega) hB.size
        obtain ⟨a2, c2, rfl, _⟩ := pown_form h2
        refine ⟨a2, c2, w4, h1, ?_, h4 w hB⟩
        rw [HE.out, ← hl]
        exact h2
      have go : ∀ ln', ln' = min ln 12 → ∃ a2 c2 w4, (Builtin.append_ #[41, 41] 41 #[.slice va i vcap, .slice (some ⟨wr.heap.size + 1, 0, none⟩) 1 1]).run Try.prog ((wr.alloc (.cells #[.int .i64 lb, .slice la ln' lc, .slice ra rn rc] 85)).alloc (.cells #[.int .i64 lb, .slice la ln' lc, .slice ra rn rc] 85)) = .ok (.slice a2 (i + 1) c2) w4 ∧ Hid (w4.ownsRow w.heap.size 85 3 (.slice a2 (i + 1) c2) (i + 1) (encCw C (i + 1)) ∧ Below w.heap.size w w4) := fun ln' hl => by
        have hb1 : Below wr.heap.size wr (wr.alloc (.cells #[.int .i64 lb, .slice la ln' lc, .slice ra rn rc] 85)) := below_new _ _
        have h := fin (wr.alloc (.cells #[.int .i64 lb, .slice la ln' lc, .slice ra rn rc] 85)) ln' hl (Below.onto HR.out.2 hb1) (pown_below HR.out.1 hb1)
        rw [show (wr.alloc (.cells #[.int .i64 lb, .slice la ln' lc, .slice ra rn rc] 85)).heap.size = wr.heap.size + 1 by simp] at h
        exact h
      clear fin
      by_cases hg : 12 < ln
      · have hsl := slice_lanes la ln 12 lc (by omega)
        obtain ⟨a2, c2, w4, hrun, HN⟩ := go 12 (by omega)
        clear go HR
        go_wp2_with (at_builtin; refine wpList_append_run rfl _ _ _ rfl _ _ _ rfl rfl hrun ?_)
        go_roundw
        case rel => exact ⟨i + 1, _, by omega, by omega, by go_num, rfl, HN⟩
        case measure => simp [intOf]; omega
      · obtain ⟨a2, c2, w4, hrun, HN⟩ := go ln (by omega)
        clear go HR
        go_wp2_with (at_builtin; refine wpList_append_run rfl _ _ _ rfl _ _ _ rfl rfl hrun ?_)
        go_roundw
        case rel => exact ⟨i + 1, _, by omega, by omega, by go_num, rfl, HN⟩
        case measure => simp [intOf]; omega
    · have hk : Hid (i = min n 12) := by show _ = _; omega
      have HF : Hid (Chs wr va (min n 12) (cutC C) ∧ Below w.heap.size w wr) := by
        have h := HR.out
        rw [hk.out] at h
        refine ⟨⟨fun j hj => ?_, fun j hj => ⟨?_, ?_⟩⟩, h.2⟩
        · obtain ⟨g, rfl, hc⟩ := pown_at h.1 (by omega)
          exact ⟨g, 0, rfl, fun f hf => hc _ _ (by rw [Nat.zero_add]; exact encCw_at C _ j hj f hf)⟩
        · have h2 := ((HS.out.2 j (by omega)).1).below h.2
          exact fun q hq => h2 q (by have : (cutC C j).ln = min (C j).ln 12 := rfl; omega)
        · have h3 := (HS.out.2 j (by omega)).2
          have : (cutC C j).ln = min (C j).ln 12 := rfl
          have h4 : (cutC C j).lc = (C j).lc := rfl
          omega
      clear HR
      have hcs : ¬ i < n ∨ (i < n ∧ ¬ i < 12) := by omega
      clear hlt
      rcases hcs with h1 | ⟨h1, h2⟩
      · go_wp2_with fail
        go_ret
        exact ⟨va, vcap, by rw [← hk.out]; rfl, HF.out⟩
      · go_wp2_with fail
        go_ret
        exact ⟨va, vcap, by rw [← hk.out]; rfl, HF.out⟩
end Go.Proofs.Ytlphombjejgbiaa
