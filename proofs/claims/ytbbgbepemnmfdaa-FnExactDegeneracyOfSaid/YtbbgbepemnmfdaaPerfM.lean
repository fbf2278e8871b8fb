/- Perfect eliminations: plain mathematics. -/
import Derived.Handy
import Derived.Test.YtbbgbepemnmfdaaBestM
import Derived.Test.YtbbgbepemnmfdaaBagM
namespace Go.Proofs.Ytbbgbepemnmfdaa.costs
open Go.RowKit P2 words edges ints good adjs fns sets rets covs reach bags bitsI fronts
set_option linter.unusedVariables false

/-- any two nodes of a set are neighbors -/
noncomputable def cliqueB (n : Nat) (l : List Ed) (S : Nat → Bool) : Bool := okG (∀ a b : Nat, a < n → b < n → S a = true → S b = true → a ≠ b → adj l (a : Int) (b : Int) = true)
theorem cliqueB_iff {n : Nat} {l : List Ed} {S : Nat → Bool} : cliqueB n l S = true ↔ ∀ a b : Nat, a < n → b < n → S a = true → S b = true → a ≠ b → adj l (a : Int) (b : Int) = true := okG_iff
/-- nothing is filled in behind the nodes that are gone -/
def NoFill (n : Nat) (l : List Ed) (G : Nat → Bool) : Prop := ∀ x y, x < n → y < n → G x = false → laterB n l G x y = true → adj l (x : Int) (y : Int) = true
theorem rch_two {n : Nat} {l : List Ed} {G : Nat → Bool} {z x : Nat} (hi : NoFill n l G) (hz : z < n) (hgz : G z = false) (hx : x < n) (hgx : G x = false) (hne : z ≠ x) :
    ∀ {w}, Rch n (J2 l) (pput (pput G z) x) x w → Rch n (J2 l) (pput G x) x w ∨ (adj l (x : Int) (z : Int) = true ∧ Rch n (J2 l) (pput G z) z w) := by
  intro w h
  induction h with
  | base => exact .inl .base
  | @step a b hr hj hq hb ih =>
    have hq2 : G b = true ∨ b = z ∨ b = x := by
      unfold pput at hq
      simp only [Bool.or_eq_true, decide_eq_true_iff] at hq
      rcases hq with (h1 | h1) | h1
      · exact .inl h1
      · exact .inr (.inl h1)
      · exact .inr (.inr h1)
    rcases hq2 with h1 | rfl | rfl
    · rcases ih with h2 | ⟨h2, h3⟩
      · exact .inl (.step h2 hj (by unfold pput; rw [h1]; rfl) hb)
      · exact .inr ⟨h2, .step h3 hj (by unfold pput; rw [h1]; rfl) hb⟩
    · rcases ih with h2 | ⟨h2, h3⟩
      · have ha := Rch.lt h2 hx
        exact .inr ⟨hi x b hx hb hgx (laterB_iff.2 ⟨hgz, hne, a, ha, h2, hj⟩), .base⟩
      · exact .inr ⟨h2, .base⟩
    · exact .inl .base
theorem NoFill.step {n : Nat} {l : List Ed} {G : Nat → Bool} {z : Nat} (hi : NoFill n l G) (hz : z < n) (hgz : G z = false) (hc : ∀ a b : Nat, a < n → b < n → G a = false → G b = false → adj l (z : Int) (a : Int) = true → adj l (z : Int) (b : Int) = true → a ≠ b → adj l (a : Int) (b : Int) = true) : NoFill n l (pput G z) := by
  intro x y hx hy hgx hl
  have hx2 : G x = false ∧ x ≠ z := by
    unfold pput at hgx
    simpa using hgx
  obtain ⟨hgy, hyx, w, hw, hr, ha⟩ := laterB_iff.1 hl
  have hy2 : G y = false ∧ y ≠ z := by
    unfold pput at hgy
    simpa using hgy
  rcases rch_two hi hz hgz hx hx2.1 (fun e => hx2.2 e.symm) hr with h1 | ⟨h1, h2⟩
  · exact hi x y hx hy hx2.1 (laterB_iff.2 ⟨hy2.1, hyx, w, hw, h1, ha⟩)
  · have h3 := hi z y hz hy hgz (laterB_iff.2 ⟨hy2.1, hy2.2, w, hw, h2, ha⟩)
    exact hc x y hx hy hx2.1 hy2.1 (by rw [adj_comm]; exact h1) h3 (fun e => hyx e.symm)
theorem NoFill.none (n : Nat) (l : List Ed) : NoFill n l (fun _ => false) := by
  intro x y hx hy _ hl
  obtain ⟨_, _, w, hw, hr, ha⟩ := laterB_iff.1 hl
  have : w = x := by
    have h1 := hr.inq (by unfold pput; simp)
    unfold pput at h1
    simpa using h1
  rw [← this]; exact ha
theorem NoFill.later {n : Nat} {l : List Ed} {G : Nat → Bool} (hg : P2.Good (n : Int) l) (hi : NoFill n l G) {x y : Nat} (hx : x < n) (hy : y < n) (hgx : G x = false) : laterB n l G x y = (!G y && adj l (x : Int) (y : Int)) := by
  rw [Bool.eq_iff_iff, Bool.and_eq_true, Bool.not_eq_true']
  constructor
  · intro h
    exact ⟨(laterB_iff.1 h).1, hi x y hx hy hgx h⟩
  · rintro ⟨h1, h2⟩
    refine laterB_iff.2 ⟨h1, ?_, x, hx, .base, h2⟩
    rintro rfl
    rw [adj_self hg] at h2; cases h2
/-- does a node bring up no edge -/
noncomputable def fitP (n : Nat) (l : List Ed) (g x : Nat) : Bool := cliqueB n l (bagB n l (bitB g) x)
/-- the same, by its neighbors -/
noncomputable def fitQ (n : Nat) (l : List Ed) (g x : Nat) : Bool := cliqueB n l (fun y => !bitB g y && adj l (x : Int) (y : Int))
theorem fitP_eq {n : Nat} {l : List Ed} {g x : Nat} (hg : P2.Good (n : Int) l) (hi : NoFill n l (bitB g)) (hx : x < n) (hb : g.testBit x = false) : fitP n l g x = fitQ n l g x := by
  have hbx : bitB g x = false := hb
  unfold fitP fitQ
  rw [Bool.eq_iff_iff, cliqueB_iff, cliqueB_iff]
  have hla : ∀ y, y < n → laterB n l (bitB g) x y = (!bitB g y && adj l (x : Int) (y : Int)) := fun y hy => NoFill.later hg hi hx hy hbx
  constructor
  · intro h a b ha hb2 h1 h2 hne
    refine h a b ha hb2 ?_ ?_ hne
    · unfold bagB pput; rw [hla a ha, h1]; rfl
    · unfold bagB pput; rw [hla b hb2, h2]; rfl
  · intro h a b ha hb2 h1 h2 hne
    unfold bagB pput at h1 h2
    rw [hla a ha, Bool.or_eq_true, decide_eq_true_iff] at h1
    rw [hla b hb2, Bool.or_eq_true, decide_eq_true_iff] at h2
    rcases h1 with h1 | rfl
    · rcases h2 with h2 | rfl
      · exact h a b ha hb2 h1 h2 hne
      · rw [Bool.and_eq_true] at h1
        rw [adj_comm]; exact h1.2
    · rcases h2 with h2 | rfl
      · rw [Bool.and_eq_true] at h2
        exact h2.2
      · exact absurd rfl hne
theorem bit_or (g z : Nat) : bitB (g ||| 2 ^ z) = pput (bitB g) z := by
  funext y
  unfold bitB pput
  rw [Nat.testBit_or, Nat.testBit_two_pow]
  congr 1
  exact decide_eq_decide.2 ⟨fun h => h.symm, fun h => h.symm⟩
theorem ord_nofill {n : Nat} {l : List Ed} (hg : P2.Good (n : Int) l) : ∀ {k g : Nat} {L : List Int}, ordN n (fitP n l) k = some (g, L) → NoFill n l (bitB g)
  | 0, g, L, h => by
    cases h
    have : bitB 0 = fun _ => false := by funext z; simp [bitB]
    rw [this]; exact NoFill.none n l
  | k + 1, g, L, h => by
    rw [ordN] at h
    cases hk : ordN n (fitP n l) k with
    | none => rw [hk] at h; cases h
    | some s =>
      obtain ⟨g0, L0⟩ := s
      rw [hk] at h
      simp only [Option.bind_some] at h
      cases hx : (nw (fitB (fitP n l) g0) n)[0]? with
      | none => rw [hx] at h; cases h
      | some x =>
        rw [hx] at h
        cases h
        obtain ⟨z, hz, h2, rfl⟩ := mem_nw.1 (List.mem_of_getElem? hx)
        have hi := ord_nofill hg hk
        unfold fitB at h2
        rw [Bool.and_eq_true] at h2
        have hb : g0.testBit z = false := by simpa using h2.1
        have hq := h2.2
        rw [fitP_eq hg hi hz hb] at hq
        rw [Int.toNat_natCast, bit_or]
        refine hi.step hz hb fun a b ha hb2 h3 h4 h5 h6 hne => ?_
        exact cliqueB_iff.1 hq a b ha hb2 (by rw [h3, h5]; rfl) (by rw [h4, h6]; rfl) hne
/-- the perfect elimination, where there is one -/
def PerfOk (s : Int) (l : List Ed) : Prop := P2.Good s l ∧ (ordN s.toNat (fitP s.toNat l) s.toNat).isSome = true
noncomputable def peL (s : Int) (l : List Ed) : List Int := ordL s.toNat (fitP s.toNat l)
theorem fitQ_none {n k g : Nat} {l : List Ed} {L : List Int} (hg : P2.Good (n : Int) l) (h : ordN n (fitP n l) k = some (g, L)) : nw (fitB (fitP n l) g) n = nw (fitB (fitQ n l) g) n :=
  reach.nw_congr (fitB_congr fun x hx hb => fitP_eq hg (ord_nofill hg h) hx hb)
theorem ordL_le' {n : Nat} {fit : Nat → Nat → Bool} : (ordL n fit).length ≤ n := by
  unfold ordL
  cases h : ordN n fit n with
  | none => simp
  | some s =>
    obtain ⟨g, L⟩ := s
    have := (ordN_ok h).2
    simp; omega
theorem pe_len (s : Int) (l : List Ed) : (inG (PerfOk s l) (peL s l)).length ≤ 1048576 := inG_len fun hp => by
  have := ordL_le' (n := s.toNat) (fit := fitP s.toNat l)
  unfold peL
  have := hp.1.1; have := hp.1.2.1; omega
end Go.Proofs.Ytbbgbepemnmfdaa.costs
