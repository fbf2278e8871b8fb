/- The contract of the program's chaseIn: the game of one cop. -/
import Derived.Test.YtphlpipbhaiijaaGameF
import Derived.Test.YtphlpipbhaiijaaTimeL
import Derived.Deep.AppendLies
import Derived.Deep.RegionHeldLaw
namespace Go.Proofs.Ytphlpipbhaiijaa.times
open Go.RowKit P2 words edges ints good adjs fns sets rets covs bitsI bags gridr mids grid reps apps
set_option linter.unusedVariables false

theorem OwnG.kept_c {w w' : World} {B O : Nat} {t : TypeId} {v : Value} {us : List Value} {rows : List (List Int)} {cs : Array Value} (h : OwnG w B v us rows) (hO : Blk w O t cs) (h1 : 25 ≠ t) (h2 : 3 ≠ t) (hg : w.grownBy w' (some O)) : OwnG w' B v us rows :=
  ⟨h.1.kept hg (.inr (own_ne h.1 hO h1)), fun i u r hu hr => (h.2.1 i u r hu hr).kept hg (.inr (own_ne (h.2.1 i u r hu hr) hO h2)), h.2.2⟩
theorem gset1 (w : World) (g j : Nat) (u : Value) : w.grownBy (w.setCell ⟨g, j, none⟩ u) (some g) := gset (World.grownBy.refl w (some g)) j u
/-- the first k places -/
def pwK (k : Nat) : List Nat := (List.range k).map (2 ^ ·)
theorem pwK_len (k : Nat) : (pwK k).length = k := by simp [pwK]
theorem pwK_succ (k : Nat) : pwK (k + 1) = pwK k ++ [2 ^ k] := by simp [pwK, List.range_succ]
theorem cellsU_app (l m : List Nat) : cellsU (l ++ m) = cellsU l ++ cellsU m := by simp [cellsU]
theorem pwK_all (l : List Ed) (n : Nat) : pwK n = codesL (one l n).P (one l n).n (one l n).tk := by
  unfold pwK codesL
  refine List.map_congr_left fun p hp => ?_
  have hpn := List.mem_range.1 hp
  rw [← num_one hpn]
  refine num_ext fun z _ => ?_
  show decide (z = p) = (p == z)
  rw [Bool.eq_iff_iff, decide_eq_true_iff, beq_iff_eq]
  exact eq_comm
def mvK (l : List Ed) (n k : Nat) : List (List Int) := (List.range k).map (ballL l n)
theorem mvK_len (l : List Ed) (n k : Nat) : (mvK l n k).length = k := by simp [mvK]
theorem mvK_succ (l : List Ed) (n k : Nat) : mvK l n (k + 1) = mvK l n k ++ [ballL l n k] := by simp [mvK, List.range_succ]
theorem mvK_at {l : List Ed} {n k p : Nat} (h : p < k) : (mvK l n k)[p]? = some (ballL l n p) := by simp [mvK, h]
theorem clo_nodes {n : Nat} {l : List Ed} (hg : P2.Good (n : Int) l) {x : Nat} (hx : x < n) (hn : n ≤ 8) : nw (bitB (cloB l x)) 8 = ballL l n x := by
  unfold ballL
  rw [nw_more hn (fun k h1 _ => by
    unfold bitB
    rw [cloB_bit hg]
    cases ha : adj l (x : Int) (k : Int) with
    | false => simp; omega
    | true => have := (adj_node hg ha).2; omega)]
  exact nw_congr fun k _ => by unfold bitB; rw [cloB_bit hg]; rfl
theorem moves_one (l : List Ed) (n : Nat) : MovesOf (one l n) (mvK l n n) := by
  refine ⟨mvK_len l n n, fun p mvs h => ?_⟩
  have hp : p < n := by have := (List.getElem?_eq_some_iff.1 h).1; rwa [mvK_len] at this
  rw [mvK_at hp] at h
  cases h
  unfold ballL
  refine ⟨fun q hq => ?_, fun q hq => ?_⟩
  · obtain ⟨z, hz, _, rfl⟩ := mem_nw.1 hq
    show 0 ≤ (z : Int) ∧ (z : Int) < (n : Int)
    omega
  · rw [mem_nw]
    show ballB l p q = true ↔ _
    constructor
    · exact fun hb => ⟨q, hq, hb, rfl⟩
    · rintro ⟨z, _, hz, e⟩
      obtain rfl : q = z := by omega
      exact hz
theorem mvK_short {l : List Ed} {n : Nat} (hn : n ≤ 8) : ∀ mvs ∈ mvK l n n, mvs.length ≤ 200 := fun mvs h => by
  obtain ⟨p, _, rfl⟩ := List.mem_map.1 h
  have : (ballL l n p).length ≤ n := nw_len _ _
  omega

/-- a slice of words lies in another block than a game -/
theorem nums_ne {w : World} {A : Option Addr} {n c O : Nat} {xs : List Nat} {a1 a2 a3 a4 : Option Addr} {n1 n2 n3 n4 c1 c2 c3 c4 : Nat} {t : TypeId} (h : Nums w (.slice A n c) xs) (hb : Blk w O t #[.slice a1 n1 c1, .slice a2 n2 c2, .slice a3 n3 c3, .slice a4 n4 c4]) :
    0 < xs.length → ∀ g o, A = some ⟨g, o, none⟩ → g ≠ O := fun h0 g o e e2 => by
  subst e
  subst e2
  obtain ⟨_, _, hf, hx⟩ := h.form
  obtain ⟨x, hx0⟩ : ∃ x, xs[0]? = some x := ⟨_, List.getElem?_eq_getElem h0⟩
  cases hf
  obtain ⟨g', o', e3, hc⟩ := hx 0 x hx0
  cases e3
  rw [hb.cell (o + 0)] at hc
  match o, hc with
  | 0, hc => simp at hc
  | 1, hc => simp at hc
  | 2, hc => simp at hc
  | 3, hc => simp at hc
  | o + 4, hc => simp at hc
theorem nums_grown {w w' : World} {A : Option Addr} {n c O : Nat} {xs : List Nat} (h : Nums w (.slice A n c) xs) (hg : w.grownBy w' (some O)) (hne : 0 < xs.length → ∀ g o, A = some ⟨g, o, none⟩ → g ≠ O) : Nums w' (.slice A n c) xs := by
  rcases Nat.eq_zero_or_pos xs.length with h0 | h0
  · obtain ⟨A', c', e, _⟩ := h
    exact ⟨A', c', e, fun hh => by omega⟩
  · refine h.grown hg fun g o k c' e hh => ?_
    cases e
    exact hne h0 g o rfl (by simpa using hh)
end Go.Proofs.Ytphlpipbhaiijaa.times
