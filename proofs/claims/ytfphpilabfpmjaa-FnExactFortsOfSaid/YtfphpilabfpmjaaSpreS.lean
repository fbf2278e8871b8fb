/- The contracts of the model's l8Number, l8Inside, l8Spread, SpreadOf and IsStopping. -/
import Derived.Handy
import Derived.Test.YtfphpilabfpmjaaSpreI
import Derived.Test.YtfphpilabfpmjaaBall
import Derived.Test.YtfphpilabfpmjaaNeighS
import Derived.Test.YtfphpilabfpmjaaTimeT
import Derived.Deep.DeepCutAuto
import Derived.Deep.RegionHeld3
namespace Go.Proofs.Ytfphpilabfpmjaa.ups
open Go.RowKit P2 words edges ints good adjs fns sets rets covs bags balls bitsI func
set_option linter.unusedVariables false

theorem inB_num {k : Int} (h : 1 ≤ k ∧ k ≤ 8) : inB k 1 8 = true := by unfold inB; exact decide_eq_true h
theorem inB_non {k : Int} (h : ¬ (1 ≤ k ∧ k ≤ 8)) : inB k 1 8 = false := by unfold inB; exact decide_eq_false h
/-- how many of the first k numbers of a list are neighbors -/
def inK (l : List Ed) (xs : List Int) (x : Int) (k : Nat) : Nat := ((xs.take k).filter fun y => adj l y x).length
theorem inK_yes {l : List Ed} {xs : List Int} {x y : Int} {k : Nat} (h : xs[k]? = some y) (ha : adj l y x = true) : inK l xs x (k + 1) = inK l xs x k + 1 := by
  unfold inK
  rw [List.take_add_one, h, List.filter_append, List.length_append]
  simp [ha]
theorem inK_no {l : List Ed} {xs : List Int} {x y : Int} {k : Nat} (h : xs[k]? = some y) (ha : adj l y x = false) : inK l xs x (k + 1) = inK l xs x k := by
  unfold inK
  rw [List.take_add_one, h, List.filter_append, List.length_append]
  simp [ha]
theorem inK_len (l : List Ed) (xs : List Int) (x : Int) (k : Nat) : inK l xs x k ≤ k := by
  unfold inK
  exact Nat.le_trans (List.length_filter_le _ _) (by rw [List.length_take]; omega)
def inC (l : List Ed) (xs : List Int) (x : Int) : Nat := (xs.filter fun y => adj l y x).length
theorem inK_all (l : List Ed) (xs : List Int) (x : Int) : inK l xs x xs.length = inC l xs x := by unfold inK inC; rw [List.take_length]
theorem inC_nw (l : List Ed) (d n x : Nat) : inC l (nw (bitB d) n) (x : Int) = (nw (fun y => bitB d y && adj l (y : Int) (x : Int)) n).length := by
  unfold inC nw
  rw [List.filter_map, List.length_map, List.length_map, List.filter_filter]
  congr 1
  exact List.filter_congr fun z _ => by simp [Bool.and_comm]
theorem put_bits {n d x : Nat} {L : List Int} (h : PutI (nw (bitB d) n) (x : Int) L) (hx : x < n) : L = nw (bitB (d ||| 2 ^ x)) n :=
  asc_ext h.1 (nw_asc _ _) fun e => by
    rw [h.2.1 e, mem_nw, mem_nw]
    constructor
    · rintro (rfl | ⟨j, hj, hp, rfl⟩)
      · exact ⟨x, hx, by unfold bitB; rw [put_bit]; simp, rfl⟩
      · exact ⟨j, hj, by unfold bitB at hp ⊢; rw [put_bit, hp]; rfl, rfl⟩
    · rintro ⟨j, hj, hp, rfl⟩
      unfold bitB at hp
      rw [put_bit, Bool.or_eq_true, decide_eq_true_iff] at hp
      rcases hp with hp | rfl
      · exact .inr ⟨j, hj, hp, rfl⟩
      · exact .inl rfl
/-- what holds in a round behind the first x nodes -/
def SprR (n : Nat) (l : List Ed) (r R d x : Nat) : Prop := R + 1 ≤ onesN d ∨ ((∀ j, j < x → ¬ AddS n l r d j) ∧ (Stops n l r d ∨ R ≤ onesN d))
def SprO (n : Nat) (l : List Ed) (r R d : Nat) : Prop := Stops n l r d ∨ R ≤ onesN d
theorem SprO.start {n : Nat} {l : List Ed} {r R d : Nat} (h : SprO n l r R d) : SprR n l r R d 0 := .inr ⟨fun j hj => by omega, h⟩
theorem SprR.done {n : Nat} {l : List Ed} {r R d : Nat} (h : SprR n l r R d n) : SprO n l r (R + 1) d := by
  rcases h with h | ⟨h, _⟩
  · exact .inr h
  · exact .inl fun x hx => h x hx.1 hx
theorem SprR.keep {n : Nat} {l : List Ed} {r R d x : Nat} (h : SprR n l r R d x) (hx : ¬ AddS n l r d x) : SprR n l r R d (x + 1) := by
  rcases h with h | ⟨h, h2⟩
  · exact .inl h
  · refine .inr ⟨fun j hj => ?_, h2⟩
    by_cases e : j = x
    · subst e; exact hx
    · exact h j (by omega)
theorem SprR.add {n : Nat} {l : List Ed} {r R d x : Nat} (h : SprR n l r R d x) (hx : AddS n l r d x) (hd : d < 256) (hn : n ≤ 8) : SprR n l r R (d ||| 2 ^ x) (x + 1) := by
  have ho := ones_put hd (show x < 8 by have := hx.1; omega) hx.2.1
  refine .inl ?_
  rcases h with h | ⟨_, h | h⟩
  · omega
  · exact absurd hx (h x)
  · omega
theorem SprO.all {n : Nat} {l : List Ed} {r d : Nat} (h : SprO n l r n d) (hn : n ≤ 8) (hd : d < 2 ^ n) : Stops n l r d := by
  rcases h with h | h
  · exact h
  · have hd8 := Nat.lt_of_lt_of_le hd (pow_le hn)
    have h1 := ones_top ⟨n, by omega⟩ ⟨d, hd8⟩ hd
    have h2 := (ones_full ⟨n, by omega⟩ ⟨d, hd8⟩ hd).1 (by simp only at h1 ⊢; omega)
    exact full_stops h2
theorem setOk_code {n : Nat} {l : List Ed} {xs : List Int} (h : SetOk (n : Int) l xs) : xs = nw (bitB (codeL xs)) n := set_code h.2.2 h.2.1
theorem out_code {n : Nat} {l : List Ed} {d x : Nat} (hg : P2.Good (n : Int) l) (hn : n ≤ 8) (hx : d.testBit x = true) : (nw (fun y => adj l (x : Int) (y : Int)) n).length = inC l (nw (bitB d) n) (x : Int) + onesN (outN l n d x) := by
  rw [inC_nw]
  exact out_len hg hn hx _ fun z _ => rfl
theorem spr_len (s : Int) (l : List Ed) (xs : List Int) (r : Int) : (inG (SpOk s l xs r) (sprL s l xs r)).length ≤ 1048576 := inG_len fun _ => by
  unfold sprL ndN
  have := nw_len (bitB (spN s.toNat l r.toNat (codeL xs))) 8
  omega
end Go.Proofs.Ytfphpilabfpmjaa.ups
