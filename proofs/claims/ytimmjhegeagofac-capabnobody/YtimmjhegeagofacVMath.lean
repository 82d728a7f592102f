/- A table of handles as plain data: what each call answers, what it makes of the table; a handle that died stays dead. -/
import Derived.Test.YtimmjhegeagofacUMem
import Derived.Test.YtimmjhegeagofacWLeaf
namespace Go.Proofs.Ytimmjhegeagofac

/-- a place: its cap's channel and rights (0: it is free), its generation -/
structure Pc where
  c : Int
  r : Int
  g : Int
structure Tb where
  n : Nat
  at_ : Nat → Pc
structure Tb.Ok (T : Tb) : Prop where
  n32 : T.n ≤ 32
  r : ∀ i, 0 ≤ (T.at_ i).r ∧ (T.at_ i).r < 256
  g : ∀ i, i < T.n → 1 ≤ (T.at_ i).g ∧ (T.at_ i).g ≤ 65536
  t : ∀ i, i < T.n → (T.at_ i).r ≠ 0 → (T.at_ i).g ≤ 65535
def pc0 : Pc := ⟨0, 0, 0⟩
/-- New's -/
def newTb (n : Nat) : Tb := ⟨n, fun i => if i < n then ⟨0, 0, 1⟩ else pc0⟩
def updP (f : Nat → Pc) (k : Nat) (x : Pc) (j : Nat) : Pc := if j = k then x else f j
def Tb.set (T : Tb) (k : Nat) (x : Pc) : Tb := ⟨T.n, updP T.at_ k x⟩
theorem Tb.set_at (T : Tb) (k : Nat) (x : Pc) : (T.set k x).at_ k = x := by simp [Tb.set, updP]
theorem Tb.set_ne (T : Tb) {k j : Nat} (x : Pc) (h : j ≠ k) : (T.set k x).at_ j = T.at_ j := by simp [Tb.set, updP, h]
theorem Tb.set_n (T : Tb) (k : Nat) (x : Pc) : (T.set k x).n = T.n := rfl

def takP (x : Pc) : Bool := x.r != 0
def lefP (x : Pc) : Bool := decide (x.r = 0) && decide (x.g ≤ 65535)
/-- a place's handle -/
def hdl (T : Tb) (i : Nat) : Int := handAns (i : Int) (T.at_ i).r (T.at_ i).g
/-- the place of a number -/
def plc (h : Int) : Nat := (h % 256).toNat
/-- is a number a taken place's handle? -/
def tkh (T : Tb) (h : Int) : Bool := decide (plc h < T.n) && takP (T.at_ (plc h)) && decide (hdl T (plc h) = h)
/-- the first place below k that is left, or k -/
def frTo (T : Tb) : Nat → Nat
  | 0 => 0
  | k + 1 => if frTo T k < k then frTo T k else if lefP (T.at_ k) then k else k + 1
def frN (T : Tb) : Nat := frTo T T.n
/-- how many below k are left -/
def lfTo (T : Tb) : Nat → Nat
  | 0 => 0
  | k + 1 => lfTo T k + if lefP (T.at_ k) then 1 else 0
/-- the handles of the taken ones below k -/
def lvTo (T : Tb) : Nat → List Int
  | 0 => []
  | k + 1 => lvTo T k ++ if takP (T.at_ k) then [hdl T k] else []
theorem frTo_le (T : Tb) (k : Nat) : frTo T k ≤ k := by
  induction k with
  | zero => exact Nat.le_refl _
  | succ k ih =>
    unfold frTo
    split
    · omega
    · split <;> omega
theorem frTo_not (T : Tb) (k : Nat) : ∀ j, j < frTo T k → lefP (T.at_ j) = false := by
  induction k with
  | zero => intro j hj; simp [frTo] at hj
  | succ k ih =>
    intro j hj
    unfold frTo at hj
    have h1 := frTo_le T k
    split at hj
    · exact ih j hj
    · next h =>
      have h2 : frTo T k = k := by omega
      split at hj
      · exact ih j (by omega)
      · next h3 =>
        by_cases e : j = k
        · subst e; simpa using h3
        · exact ih j (by omega)
theorem frTo_lef (T : Tb) (k : Nat) (h : frTo T k < k) : lefP (T.at_ (frTo T k)) = true := by
  induction k with
  | zero => omega
  | succ k ih =>
    unfold frTo at h ⊢
    have h1 := frTo_le T k
    split
    · next h2 => exact ih h2
    · next h2 =>
      rw [if_neg h2] at h
      split
      · next h3 => exact h3
      · next h3 => rw [if_neg h3] at h; omega
theorem frTo_same {T : Tb} {k : Nat} (h : ∀ j, j < k → lefP (T.at_ j) = false) : frTo T k = k := by
  rcases Nat.lt_or_ge (frTo T k) k with h1 | h1
  · have := frTo_lef T k h1
    rw [h _ h1] at this
    cases this
  · have := frTo_le T k; omega
theorem frTo_at {T : Tb} {i k : Nat} (hi : i < k) (h : ∀ j, j < i → lefP (T.at_ j) = false) (hl : lefP (T.at_ i) = true) : frTo T k = i := by
  rcases Nat.lt_trichotomy (frTo T k) i with h1 | h1 | h1
  · have := frTo_lef T k (by omega)
    rw [h _ h1] at this
    cases this
  · exact h1
  · have := frTo_not T k i h1
    rw [hl] at this
    cases this
theorem lfTo_le (T : Tb) (k : Nat) : lfTo T k ≤ k := by
  induction k with
  | zero => exact Nat.le_refl _
  | succ k ih => unfold lfTo; split <;> omega
theorem lvTo_le (T : Tb) (k : Nat) : (lvTo T k).length ≤ k := by
  induction k with
  | zero => exact Nat.le_refl _
  | succ k ih => unfold lvTo; split <;> simp <;> omega

/-- Mint's error, handle and table -/
def mtE (T : Tb) (r : Int) : Int := if r = 0 then 1 else if frN T < T.n then 0 else 110
def mtI (T : Tb) (r : Int) : Int := if r = 0 then 0 else if frN T < T.n then handAns (frN T : Int) r (T.at_ (frN T)).g else 0
def mtT (T : Tb) (c r : Int) : Tb := if r = 0 then T else if frN T < T.n then T.set (frN T) ⟨c, r, (T.at_ (frN T)).g⟩ else T
def dpE (T : Tb) (h : Int) : Int := if tkh T h then 0 else 111
def dpT (T : Tb) (h : Int) : Tb := if tkh T h then T.set (plc h) ⟨0, 0, (T.at_ (plc h)).g + 1⟩ else T
/-- all of some rights? -/
def cov (a b : Int) : Bool := bits .and .u8 a b == b
def wtB (T : Tb) (h r : Int) : Bool := tkh T h && cov (T.at_ (plc h)).r r
def wtP (T : Tb) (h r : Int) : Pc := if wtB T h r then T.at_ (plc h) else pc0

theorem newTb_ok {n : Nat} (h : n ≤ 32) : (newTb n).Ok := by
  refine ⟨h, fun i => ?_, fun i hi => ?_, fun i hi => ?_⟩
  · simp only [newTb]; split <;> simp [pc0]
  · have hi : i < n := hi
    simp [newTb, hi]
  · have hi : i < n := hi
    simp [newTb, hi]
theorem mtT_ok {T : Tb} (ho : T.Ok) (c : Int) {r : Int} (h0 : 0 ≤ r) (h1 : r < 256) : (mtT T c r).Ok := by
  unfold mtT
  split
  · exact ho
  split
  · next hr hf =>
    have hl := frTo_lef T T.n hf
    have hg := ho.g _ hf
    simp [lefP] at hl
    refine ⟨ho.n32, fun i => ?_, fun i hi => ?_, fun i hi => ?_⟩
    · by_cases e : i = frN T
      · subst e; rw [Tb.set_at]; exact ⟨h0, h1⟩
      · rw [Tb.set_ne _ _ e]; exact ho.r i
    · have hi : i < T.n := hi
      by_cases e : i = frN T
      · subst e; rw [Tb.set_at]; exact hg
      · rw [Tb.set_ne _ _ e]; exact ho.g i hi
    · have hi : i < T.n := hi
      by_cases e : i = frN T
      · subst e; rw [Tb.set_at]; exact fun _ => hl.2
      · rw [Tb.set_ne _ _ e]; exact ho.t i hi
  · exact ho
theorem tkh_parts {T : Tb} {h : Int} (ht : tkh T h = true) : plc h < T.n ∧ (T.at_ (plc h)).r ≠ 0 ∧ hdl T (plc h) = h := by
  simp [tkh, takP] at ht
  exact ⟨ht.1.1, ht.1.2, ht.2⟩
theorem dpT_ok {T : Tb} (ho : T.Ok) (h : Int) : (dpT T h).Ok := by
  unfold dpT
  split
  · next ht =>
    obtain ⟨h1, h2, h3⟩ := tkh_parts ht
    have hg := ho.g _ h1
    have hg' := ho.t _ h1 h2
    refine ⟨ho.n32, fun i => ?_, fun i hi => ?_, fun i hi => ?_⟩
    · by_cases e : i = plc h
      · subst e; rw [Tb.set_at]; simp
      · rw [Tb.set_ne _ _ e]; exact ho.r i
    · have hi : i < T.n := hi
      by_cases e : i = plc h
      · subst e; rw [Tb.set_at]; exact ⟨by show 1 ≤ _ + 1; omega, by show _ + 1 ≤ (65536 : Int); omega⟩
      · rw [Tb.set_ne _ _ e]; exact ho.g i hi
    · have hi : i < T.n := hi
      by_cases e : i = plc h
      · subst e; rw [Tb.set_at]; intro e; exact absurd rfl e
      · rw [Tb.set_ne _ _ e]; exact ho.t i hi
  · exact ho
theorem mtT_n (T : Tb) (c r : Int) : (mtT T c r).n = T.n := by unfold mtT; split; rfl; split <;> rfl
theorem dpT_n (T : Tb) (h : Int) : (dpT T h).n = T.n := by unfold dpT; split <;> rfl

/-- a handle's parts -/
theorem hand_in {p r g : Int} (p0 : 0 ≤ p) (p1 : p ≤ 255) (r0 : 0 ≤ r) (r1 : r ≤ 255) (g0 : 0 ≤ g) (g1 : g ≤ 65535) : handAns p r g = p + 256 * r + 65536 * g := by
  simp [handAns, handB, inB, handI, p0, p1, r0, r1, g0, g1]
theorem hand_parts {p r g : Int} (p0 : 0 ≤ p) (p1 : p ≤ 255) (r0 : 0 ≤ r) (r1 : r ≤ 255) (g0 : 0 ≤ g) (g1 : g ≤ 65535) : handAns p r g % 256 = p ∧ handAns p r g / 65536 = g ∧ 0 ≤ handAns p r g ∧ handAns p r g < 4294967296 := by
  rw [hand_in p0 p1 r0 r1 g0 g1]; omega
theorem hdl_parts {T : Tb} (ho : T.Ok) {i : Nat} (hi : i < T.n) (hr : (T.at_ i).r ≠ 0) : plc (hdl T i) = i ∧ hdl T i / 65536 = (T.at_ i).g ∧ 0 ≤ hdl T i ∧ hdl T i < 4294967296 := by
  have h1 := ho.r i
  have h2 := ho.g i hi
  have h3 := ho.t i hi hr
  have h4 := ho.n32
  have := hand_parts (p := (i : Int)) (r := (T.at_ i).r) (g := (T.at_ i).g) (by omega) (by omega) (by omega) (by omega) (by omega) (by omega)
  refine ⟨?_, this.2.1, this.2.2.1, this.2.2.2⟩
  unfold plc hdl
  rw [this.1]
  omega
theorem mtI_rng {T : Tb} (ho : T.Ok) {r : Int} (h0 : 0 ≤ r) (h1 : r < 256) : 0 ≤ mtI T r ∧ mtI T r < 4294967296 := by
  unfold mtI
  split
  · omega
  split
  · next hr hf =>
    have hl := frTo_lef T T.n hf
    have hg := ho.g _ hf
    have hn := ho.n32
    simp [lefP] at hl
    have hf' : frN T < T.n := hf
    exact (hand_parts (p := (frN T : Int)) (r := r) (g := (T.at_ (frN T)).g) (by omega) (by omega) h0 (by omega) (by omega) hl.2).2.2
  · omega

/-- a handle that died: its generation is past -/
def Ded (T : Tb) (h : Int) : Prop := plc h < T.n → h / 65536 < (T.at_ (plc h)).g
/-- a handle that was told -/
def Tld (T : Tb) (h : Int) : Prop := plc h < T.n ∧ (h / 65536 < (T.at_ (plc h)).g ∨ (h / 65536 = (T.at_ (plc h)).g ∧ (T.at_ (plc h)).r ≠ 0))
theorem Ded.not {T : Tb} {h : Int} (hd : Ded T h) (ho : T.Ok) : tkh T h = false := by
  cases ht : tkh T h
  · rfl
  · obtain ⟨h1, h2, h3⟩ := tkh_parts ht
    have h4 := hdl_parts ho h1 h2
    have h5 := hd h1
    rw [h3] at h4
    omega
theorem mtT_at {T : Tb} {c r : Int} (i : Nat) (hi : i < T.n) : ((mtT T c r).at_ i).g = (T.at_ i).g ∧ ((T.at_ i).r ≠ 0 → ((mtT T c r).at_ i).r ≠ 0) := by
  unfold mtT
  split
  · exact ⟨rfl, id⟩
  split
  · next hr hf =>
    by_cases e : i = frN T
    · subst e; rw [Tb.set_at]; exact ⟨rfl, fun _ => hr⟩
    · rw [Tb.set_ne _ _ e]; exact ⟨rfl, id⟩
  · exact ⟨rfl, id⟩
theorem Ded.mint {T : Tb} {h : Int} (hd : Ded T h) (c r : Int) : Ded (mtT T c r) h := fun hp => by
  rw [mtT_n] at hp
  rw [(mtT_at _ hp).1]
  exact hd hp
theorem Tld.mint {T : Tb} {h : Int} (hd : Tld T h) (c r : Int) : Tld (mtT T c r) h := by
  refine ⟨by rw [mtT_n]; exact hd.1, ?_⟩
  rw [(mtT_at _ hd.1).1]
  exact hd.2.imp id fun h => ⟨h.1, (mtT_at _ hd.1).2 h.2⟩
theorem Ded.drop {T : Tb} {h : Int} (hd : Ded T h) (k : Int) : Ded (dpT T k) h := fun hp => by
  rw [dpT_n] at hp
  have := hd hp
  unfold dpT
  split
  · by_cases e : plc h = plc k
    · rw [e, Tb.set_at]; rw [e] at this; show _ < _ + 1; omega
    · rw [Tb.set_ne _ _ e]; exact this
  · exact this
theorem Tld.drop {T : Tb} {h : Int} (hd : Tld T h) (k : Int) : Tld (dpT T k) h := by
  refine ⟨by rw [dpT_n]; exact hd.1, ?_⟩
  unfold dpT
  split
  · by_cases e : plc h = plc k
    · rw [e, Tb.set_at]
      left
      show _ < _ + 1
      have := hd.2
      rw [e] at this
      omega
    · rw [Tb.set_ne _ _ e]; exact hd.2
  · exact hd.2
/-- what is dropped dies -/
theorem ded_drop {T : Tb} (ho : T.Ok) {k : Int} (h : dpE T k = 0) : Ded (dpT T k) k := fun hp => by
  unfold dpE at h
  split at h
  · next ht =>
    obtain ⟨h1, h2, h3⟩ := tkh_parts ht
    have h4 := hdl_parts ho h1 h2
    unfold dpT
    rw [if_pos ht, Tb.set_at]
    show _ < _ + 1
    rw [h3] at h4
    omega
  · omega
/-- what is minted was never told, and is told from now on -/
theorem mint_new {T : Tb} (ho : T.Ok) {c r : Int} (h0 : 0 ≤ r) (h1 : r < 256) (he : mtE T r = 0) : Tld (mtT T c r) (mtI T r) ∧ ∀ h, Tld T h → h ≠ mtI T r := by
  unfold mtE at he
  split at he
  · omega
  split at he
  · next hr hf =>
    have hl := frTo_lef T T.n hf
    have hg := ho.g _ hf
    have hn := ho.n32
    simp [lefP] at hl
    have hf' : frN T < T.n := hf
    have hp := hand_parts (p := (frN T : Int)) (r := r) (g := (T.at_ (frN T)).g) (by omega) (by omega) h0 (by omega) (by omega) hl.2
    have e1 : mtI T r = handAns (frN T : Int) r (T.at_ (frN T)).g := by unfold mtI; rw [if_neg hr, if_pos hf]
    have e2 : plc (mtI T r) = frN T := by unfold plc; rw [e1, hp.1]; omega
    have e3 : mtI T r / 65536 = (T.at_ (frN T)).g := by rw [e1]; exact hp.2.1
    refine ⟨⟨by rw [mtT_n, e2]; exact hf, ?_⟩, fun h ht e => ?_⟩
    · right
      rw [e2, e3]
      unfold mtT
      rw [if_neg hr, if_pos hf, Tb.set_at]
      exact ⟨rfl, hr⟩
    · subst e
      have := ht.2
      rw [e2, e3] at this
      have hz : (T.at_ (frN T)).r = 0 := hl.1
      rw [hz] at this
      omega
  · omega

end Go.Proofs.Ytimmjhegeagofac
