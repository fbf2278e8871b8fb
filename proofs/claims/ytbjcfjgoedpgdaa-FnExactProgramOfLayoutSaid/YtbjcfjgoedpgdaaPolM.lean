/- The program of a layout: plain mathematics, and rows that do not touch each other. -/
import Derived.Test.YtbjcfjgoedpgdaaLbM
import Derived.Test.YtbjcfjgoedpgdaaFrontI
import Derived.Test.YtbjcfjgoedpgdaaLater
import Derived.Test.YtbjcfjgoedpgdaaBall
namespace Go.Proofs.Ytbjcfjgoedpgdaa.fronts
open Go.RowKit P2 words edges ints good adjs fns sets rets covs reach bags balls bitsI each
set_option linter.unusedVariables false

noncomputable def frB (n : Nat) (l : List Ed) (tl : List Int) (i : Nat) : Nat → Bool := frontB l n (goneB (tl.take i))
noncomputable def ouB (n : Nat) (l : List Ed) (tl : List Int) (i : Nat) : Nat → Bool := fun z => lbB n l tl i z && !frB n l tl (i + 1) z
def neg1 (l : List Int) : List Int := l.map fun y => -1 - y
theorem neg1_snoc (l : List Int) (y : Int) : neg1 (l ++ [y]) = neg1 l ++ [-1 - y] := by simp [neg1]
theorem neg1_len (l : List Int) : (neg1 l).length = l.length := by simp [neg1]
/-- the program of the first k places -/
noncomputable def polK (n : Nat) (l : List Ed) (tl : List Int) : Nat → List Int
  | 0 => []
  | k + 1 => polK n l tl k ++ [(((tl.getD k 0).toNat : Nat) : Int)] ++ neg1 (nw (ouB n l tl k) n)
theorem polK_len (n : Nat) (l : List Ed) (tl : List Int) (hn : n ≤ 8) : ∀ k, (polK n l tl k).length ≤ 9 * k
  | 0 => by simp [polK]
  | k + 1 => by
    have h1 := polK_len n l tl hn k
    have h2 := nw_len (ouB n l tl k) n
    simp only [polK, List.length_append, neg1_len, List.length_cons, List.length_nil]
    omega
theorem fr_zero (n : Nat) (l : List Ed) (tl : List Int) : nw (frB n l tl 0) n = [] := by
  rw [← nw_none n]
  refine reach.nw_congr fun z hz => ?_
  unfold frB frontB goneB
  simp
theorem nw_filter (p : Nat → Bool) (q : Int → Bool) (n : Nat) : (nw p n).filter q = nw (fun z => p z && q (z : Int)) n := by
  unfold nw
  rw [List.filter_map, List.filter_filter]
  congr 1
  exact List.filter_congr fun z _ => by simp [Bool.and_comm]
theorem mem_fro {n : Nat} {l : List Ed} {tl : List Int} {i z : Nat} (hz : z < n) : decide ((z : Int) ∈ froL n l (tl.take i)) = frB n l tl i z := by
  rw [Bool.eq_iff_iff, decide_eq_true_iff]
  unfold froL
  rw [mem_nw]
  constructor
  · rintro ⟨j, _, hj, e⟩
    have e2 : z = j := by omega
    rw [e2]; exact hj
  · intro h; exact ⟨z, hz, h, rfl⟩
theorem fr_sub {n : Nat} {l : List Ed} {tl : List Int} (he : EachS n tl) {i z : Nat} (hi : i < n) (h : frB n l tl (i + 1) z = true) : lbB n l tl i z = true := by
  unfold frB at h
  rw [frontB_iff] at h
  obtain ⟨h1, y, hy, h2, h3⟩ := h
  unfold lbB pput
  rw [Bool.or_eq_true, decide_eq_true_iff, frontB_iff]
  obtain ⟨a, ha, haz⟩ := take_at (of_decide_eq_true h1)
  by_cases e : a = i
  · subst e
    exact .inr (getD_at haz).symm
  · refine .inl ⟨decide_eq_true (at_take haz (by omega)), y, hy, ?_, h3⟩
    unfold goneB at h2 ⊢
    rw [decide_eq_false_iff_not] at h2 ⊢
    intro hm
    obtain ⟨b, hb, hby⟩ := take_at hm
    exact h2 (at_take hby (by omega))
theorem stay_all {n : Nat} {l : List Ed} {tl : List Int} (he : EachS n tl) {i : Nat} (hi : i < n) : (nw (lbB n l tl i) n).filter (fun y => decide (y ∈ froL n l (tl.take (i + 1)))) = nw (frB n l tl (i + 1)) n := by
  rw [nw_filter]
  refine reach.nw_congr fun z hz => ?_
  rw [mem_fro hz]
  cases h : frB n l tl (i + 1) z with
  | true => rw [fr_sub he hi h]; rfl
  | false => simp
theorem outs_all {n : Nat} {l : List Ed} {tl : List Int} {i : Nat} : (nw (lbB n l tl i) n).filter (fun y => !decide (y ∈ froL n l (tl.take (i + 1)))) = nw (ouB n l tl i) n := by
  rw [nw_filter]
  refine reach.nw_congr fun z hz => ?_
  rw [mem_fro hz]
  rfl
/-- the numbers of those that are taken away -/
theorem out_walk {n : Nat} {l : List Ed} {tl : List Int} {i : Nat} (hn : n ≤ 8) : bits .andNot .u64 ((lbN n l tl i : Nat) : Int) ((numOf (frB n l tl (i + 1)) n : Nat) : Int) = ((numOf (ouB n l tl i) n : Nat) : Int) := by
  have h1 := lbN_lt n l tl i hn
  refine andNot_num _ _ n (by omega) hn _ fun z _ => ?_
  unfold lbN
  rw [numOf_bit]
  unfold ouB
  by_cases hz : z < n <;> simp [hz]
noncomputable def polL (s : Int) (l : List Ed) (tl : List Int) : List Int := polK s.toNat l tl s.toNat
theorem pol_len (s : Int) (l : List Ed) (tl : List Int) : (inG (ElimOk s l tl) (polL s l tl)).length ≤ 1048576 := inG_len fun h => by
  have h8 := h.1.2.1
  have := polK_len s.toNat l tl (by omega) s.toNat
  unfold polL
  omega

/-- two rows that grow, and rows that stay; none of the first two touches another one -/
def Apart (u v : Value) : Prop := ∀ k, u.ownBlock = some k → v.ownBlock ≠ some k
theorem Apart.symm {u v : Value} (h : Apart u v) : Apart v u := fun k h1 h2 => h k h2 h1
theorem Apart.old {w : World} {B C : Nat} {u v : Value} {n : Nat} {cs : List Value} {e : TypeId} {z : Nat} (h : w.ownsRow C e z v n cs) (hu : ∀ k, u.ownBlock = some k → k < B) (hB : B ≤ C) : Apart u v := fun k h1 h2 => by
  have := (h.lt k h2).1
  have := hu k h1
  omega
abbrev RowB (w : World) (B : Nat) (v : Value) (L : List Int) : Prop := w.ownsRow B 3 1 v L.length (cellsI L)
theorem RowB.below {w w' : World} {B : Nat} {v : Value} {L : List Int} (h : RowB w B v L) (hb : Below w.heap.size w w') : RowB w' B v L := own_below h hb
/-- what an append onto the first leaves of another one -/
theorem RowB.push {w w2 : World} {B : Nat} {u v v2 : Value} {L : List Int} {o : Obj} {H : Nat} (h : RowB w B v L) (ha : Apart u v) (hg : (w.alloc o).grownBy w2 u.ownBlock) (hl : v2.ownBlock = u.ownBlock ∨ v2.ownBlock = some H) (hH : w.heap.size ≤ H) : RowB w2 B v L ∧ Apart v2 v :=
  ⟨(World.ownsRow.alloc h o).kept hg (bags.apart_or ha), bags.apart_grow ha hl fun q hq => Nat.lt_of_lt_of_le (h.lt q hq).2 hH⟩
/-- two rows that grow, and two that stay -/
def Four (w : World) (B : Nat) (o s h f : Value) (O S H F : List Int) : Prop :=
  RowB w B o O ∧ RowB w B s S ∧ RowB w B h H ∧ RowB w B f F ∧ Apart o s ∧ Apart o h ∧ Apart o f ∧ Apart s h ∧ Apart s f
theorem Four.push_o {w w2 : World} {B : Nat} {o s h f v2 : Value} {O S H F O2 : List Int} {ob : Obj} {Z : Nat} (hf : Four w B o s h f O S H F) (hr : RowB w2 B v2 O2) (hg : (w.alloc ob).grownBy w2 o.ownBlock) (hl : v2.ownBlock = o.ownBlock ∨ v2.ownBlock = some Z) (hZ : w.heap.size ≤ Z) : Four w2 B v2 s h f O2 S H F := by
  obtain ⟨_, h2, h3, h4, a1, a2, a3, a4, a5⟩ := hf
  obtain ⟨r1, c1⟩ := RowB.push h2 a1 hg hl hZ
  obtain ⟨r2, c2⟩ := RowB.push h3 a2 hg hl hZ
  obtain ⟨r3, c3⟩ := RowB.push h4 a3 hg hl hZ
  exact ⟨hr, r1, r2, r3, c1, c2, c3, a4, a5⟩
theorem Four.push_s {w w2 : World} {B : Nat} {o s h f v2 : Value} {O S H F S2 : List Int} {ob : Obj} {Z : Nat} (hf : Four w B o s h f O S H F) (hr : RowB w2 B v2 S2) (hg : (w.alloc ob).grownBy w2 s.ownBlock) (hl : v2.ownBlock = s.ownBlock ∨ v2.ownBlock = some Z) (hZ : w.heap.size ≤ Z) : Four w2 B o v2 h f O S2 H F := by
  obtain ⟨h1, _, h3, h4, a1, a2, a3, a4, a5⟩ := hf
  obtain ⟨r1, c1⟩ := RowB.push h1 a1.symm hg hl hZ
  obtain ⟨r2, c2⟩ := RowB.push h3 a4 hg hl hZ
  obtain ⟨r3, c3⟩ := RowB.push h4 a5 hg hl hZ
  exact ⟨r1, hr, r2, r3, c1.symm, a2, a3, c2, c3⟩
/-- what the front and the searchers that stay are, behind a drawn line -/
def CutP (wo wx : World) (F : List Int) (a b : Value) : Prop :=
  ∃ A3 c3 A4 c4, a = .slice A3 F.length c3 ∧ b = .slice A4 0 c4 ∧ RowB wx wo.heap.size (.slice A3 F.length c3) F ∧ RowB wx wo.heap.size (.slice A4 0 c4) [] ∧ Apart (.slice A4 0 c4) (.slice A3 F.length c3) ∧ Below wo.heap.size wo wx
/-- a node is put into a set: it does not touch another row -/
theorem l1Put_apart (v u : Value) (l : List Int) (x : Int) (w : World) (B : Nat) (h : RowB w B v l) (hu : ∀ k, u.ownBlock = some k → k < w.heap.size) (ha0 : Apart u v) (hB : B ≤ w.heap.size) (hl : l.length ≤ 1048576) (ha : Asc l) :
    Calls Try.prog 69 #[v, .int .i64 x] w fun e w' => ∃ L A c, e = .returned (.slice A L.length c) ∧ PutI l x L ∧ RowB w' B (.slice A L.length c) L ∧ Apart u (.slice A L.length c) ∧ Below w.heap.size w w' :=
  (l1Put_both v l x w (Reads.of_own h) hl ha).mono fun _ _ ⟨L, A, c, h1, h2, h3, h4, h5⟩ => by
    refine ⟨L, A, c, h1, h2, ?_, ?_, h4⟩
    · rcases h5 with ⟨rfl, e, rfl⟩ | h5
      · show World.ownsRow _ _ _ _ _ _ _
        rw [e]; exact h
      · exact own_base h5 hB
    · rcases h5 with ⟨rfl, e, rfl⟩ | h5
      · rw [e]; exact ha0
      · intro k h6 h7
        have := (h5.lt k h7).1
        have := hu k h6
        omega
end Go.Proofs.Ytbjcfjgoedpgdaa.fronts
