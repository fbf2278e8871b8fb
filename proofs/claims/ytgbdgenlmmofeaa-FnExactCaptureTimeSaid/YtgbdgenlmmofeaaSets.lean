/- Sets of nodes: lists in ascending order, and the contracts of hasSet, l1Rising, l2Set, l2Bits, l2All, l2Without. -/
import Derived.Handy
import Derived.Test.YtgbdgenlmmofeaaAdj
import Derived.Test.YtgbdgenlmmofeaaFns
import Derived.Test.YtgbdgenlmmofeaaRet
import Derived.Laws.BitsLemmas
import Derived.Deep.RegionHeld3
namespace Go.Proofs.Ytgbdgenlmmofeaa.sets
open Go.RowKit P2 words edges ints good adjs fns rets
set_option linter.unusedVariables false

/-- a new list of numbers is returned -/
def RowI (w : World) (l : List Int) (e : Ending) (w' : World) : Prop :=
  ∃ A c, e = .returned (.slice A l.length c) ∧ w'.ownsRow w.heap.size 3 1 (.slice A l.length c) l.length (cellsI l) ∧ Below w.heap.size w w'
theorem RowI.below {w w' : World} {l : List Int} {e : Ending} (h : RowI w l e w') : Below w.heap.size w w' := by
  obtain ⟨A, c, _, _, h⟩ := h; exact h
/-- a cell that a callee keeps, said anew behind it -/
theorem keepb {P : Program} {f : FuncId} {args : Array Value} {W : World} {R : Ending → World → Prop} {p : Addr} {a : Value}
    (h : Calls P f args W R) (hb : ∀ e w', R e w' → Below W.heap.size W w') (hp : W.cell? p = some a) : Calls P f args W fun e w' => R e w' ∧ w'.cell? p = some a :=
  h.mono fun e w' hr => ⟨hr, ((hb e w' hr).cell (World.block_lt_of_cell? W _ hp)).trans hp⟩
theorem keepb2 {P : Program} {f : FuncId} {args : Array Value} {W : World} {R : Ending → World → Prop} {p q : Addr} {a b : Value}
    (h : Calls P f args W R) (hb : ∀ e w', R e w' → Below W.heap.size W w') (hp : W.cell? p = some a) (hq : W.cell? q = some b) : Calls P f args W fun e w' => R e w' ∧ w'.cell? p = some a ∧ w'.cell? q = some b :=
  h.mono fun e w' hr => ⟨hr, ((hb e w' hr).cell (World.block_lt_of_cell? W _ hp)).trans hp, ((hb e w' hr).cell (World.block_lt_of_cell? W _ hq)).trans hq⟩

/-- ascending -/
def Asc (l : List Int) : Prop := l.Pairwise (· < ·)
def AscTo (l : List Int) (k : Nat) : Prop := ∀ j x y, j + 1 < k → l[j]? = some x → l[j + 1]? = some y → x < y
theorem AscTo.start (l : List Int) (k : Nat) (h : k ≤ 1) : AscTo l k := fun j _ _ hj => by omega
theorem AscTo.succ {l : List Int} {k : Nat} (h : AscTo l (k + 1)) (hk : ∀ x y, l[k]? = some x → l[k + 1]? = some y → x < y) : AscTo l (k + 1 + 1) := fun j x y hj hx hy => by
  by_cases e : j = k
  · subst e; exact hk x y hx hy
  · exact h j x y (by omega) hx hy
theorem AscTo.pair {l : List Int} (h : AscTo l l.length) : ∀ (i j : Nat) (a b : Int), i < j → l[i]? = some a → l[j]? = some b → a < b := by
  intro i j a b hij ha hb
  induction j generalizing b with
  | zero => omega
  | succ j ih =>
    have hj : j + 1 < l.length := (List.getElem?_eq_some_iff.1 hb).1
    obtain ⟨d, hd⟩ : ∃ d, l[j]? = some d := ⟨_, List.getElem?_eq_getElem (by omega)⟩
    have h1 := h j d b hj hd hb
    by_cases e : i = j
    · subst e; rw [ha] at hd; cases hd; exact h1
    · have := ih d (by omega) hd; omega
theorem AscTo.asc {l : List Int} (h : AscTo l l.length) : Asc l := by
  unfold Asc
  rw [List.pairwise_iff_getElem]
  intro i j hi hj hij
  exact h.pair i j _ _ hij (List.getElem?_eq_getElem hi) (List.getElem?_eq_getElem hj)
theorem Asc.at_ {l : List Int} (h : Asc l) {i j : Nat} {a b : Int} (hij : i < j) (ha : l[i]? = some a) (hb : l[j]? = some b) : a < b := by
  unfold Asc at h
  rw [List.pairwise_iff_getElem] at h
  have ha' := List.getElem?_eq_some_iff.1 ha
  have hb' := List.getElem?_eq_some_iff.1 hb
  have := h i j ha'.1 hb'.1 hij
  rw [ha'.2, hb'.2] at this
  exact this
theorem Asc.to {l : List Int} (h : Asc l) (k : Nat) : AscTo l k := fun j x y _ hx hy => h.at_ (Nat.lt_succ_self j) hx hy
theorem not_asc {l : List Int} {k : Nat} {x y : Int} (hx : l[k]? = some x) (hy : l[k + 1]? = some y) (h : y ≤ x) : ¬ Asc l := fun ha => by
  have := ha.at_ (Nat.lt_succ_self k) hx hy; omega

/-- a valid Graph and a set of its nodes -/
def SetOk (s : Int) (l : List Ed) (xs : List Int) : Prop := P2.Good s l ∧ (∀ x ∈ xs, 0 ≤ x ∧ x < s) ∧ Asc xs
def RisesIn (xs : List Int) (lo hi : Int) : Prop := (∀ x ∈ xs, lo ≤ x ∧ x ≤ hi) ∧ Asc xs
theorem asc_len {xs : List Int} : ∀ {n : Nat}, Asc xs → (∀ x ∈ xs, 0 ≤ x ∧ x < (n : Int)) → xs.length ≤ n := fun {n} h hx => by
  have hnd : (xs.map Int.toNat).Nodup := by
    rw [List.Nodup, List.pairwise_map]
    refine h.imp_of_mem ?_
    intro a b ha hb hab
    have := hx a ha; have := hx b hb; omega
  have hsub : xs.map Int.toNat ⊆ List.range n := by
    intro a ha
    obtain ⟨j, hj, rfl⟩ := List.mem_map.1 ha
    have := hx j hj
    exact List.mem_range.2 (by omega)
  have := hnd.length_le_of_subset hsub
  simpa using this


def RisTo (xs : List Int) (lo hi : Int) (k : Nat) : Prop := (∀ j x, j < k → xs[j]? = some x → lo ≤ x ∧ x ≤ hi) ∧ AscTo xs k
theorem RisTo.all {xs : List Int} {lo hi : Int} (h : RisTo xs lo hi xs.length) : RisesIn xs lo hi :=
  ⟨fun x hx => by obtain ⟨j, hj⟩ := List.getElem?_of_mem hx; exact h.1 j x (List.getElem?_eq_some_iff.1 hj).1 hj, h.2.asc⟩
theorem setOk_iff {s : Int} {l : List Ed} {xs : List Int} (h : P2.Good s l) : RisesIn xs 0 (s - 1) ↔ SetOk s l xs :=
  ⟨fun ⟨h1, h2⟩ => ⟨h, fun x hx => by have := h1 x hx; omega, h2⟩, fun ⟨_, h1, h2⟩ => ⟨fun x hx => by have := h1 x hx; omega, h2⟩⟩

def bitB (c k : Nat) : Bool := c.testBit k
theorem i64_and1 (n : Int) : bits .and .i64 n 1 = n % 2 := by
  have h1 : (BitVec.ofInt 64 1).toNat = 2 ^ 1 - 1 := by decide
  have key : (BitVec.ofInt 64 n &&& BitVec.ofInt 64 1).toNat = (n % ((2 ^ 64 : Nat) : Int)).toNat % 2 ^ 1 := by
    rw [BitVec.toNat_and, BitVec.toNat_ofInt, h1, Nat.and_two_pow_sub_one_eq_mod]
  show IntKind.i64.wrap ((BitVec.ofInt 64 n &&& BitVec.ofInt 64 1).toNat : Nat) = n % 2
  rw [key, IntKind.wrap_i64]
  omega
theorem bit_walk (c k : Nat) : (bits BinOp.and IntKind.i64 ((c : Int) / 2 ^ k) 1 == 1) = bitB c k := by
  rw [i64_and1]
  unfold bitB
  rw [Nat.testBit_eq_decide_div_mod_eq, Bool.eq_iff_iff, beq_iff_eq, decide_eq_true_iff]
  have : ((c : Int) / 2 ^ k) = ((c / 2 ^ k : Nat) : Int) := by simp
  rw [this]
  omega


theorem nw_all (n : Nat) (p : Nat → Bool) (h : ∀ k, k < n → p k = true) : nw p n = (List.range n).map fun x : Nat => (x : Int) := by
  unfold nw
  rw [List.filter_eq_self.2 (fun k hk => h k (List.mem_range.1 hk))]
def allN (n : Nat) : List Int := (List.range n).map fun x : Nat => (x : Int)
theorem allN_len (n : Nat) : (allN n).length = n := by simp [allN]
theorem mem_allN {n : Nat} {x : Int} : x ∈ allN n ↔ 0 ≤ x ∧ x < n := by
  simp only [allN, List.mem_map, List.mem_range]
  constructor
  · rintro ⟨k, hk, rfl⟩; omega
  · intro h; exact ⟨x.toNat, by omega, by omega⟩
theorem bits_all (n : Nat) : nw (bitB (2 ^ n - 1)) n = allN n := nw_all n _ fun k hk => by
  unfold bitB
  rw [Nat.testBit_two_pow_sub_one]
  simpa using hk
end Go.Proofs.Ytgbdgenlmmofeaa.sets
