/- A list of different sets that grows: the contracts of the program's placeOf and familyOf. -/
import Derived.Handy
import Derived.Test.YthpodbhiopnnbaaDoorK23
import Derived.Test.YthpodbhiopnnbaaDoorK21
import Derived.Test.YthpodbhiopnnbaaDoorK01
import Derived.Test.YthpodbhiopnnbaaDoorK10
import Derived.Test.YthpodbhiopnnbaaDoorK17
import Derived.Deep.DeepCutAuto
import Derived.Deep.RegionHeld3
import Derived.Deep.QuietTactic
import Derived.Test.YthpodbhiopnnbaaDoorK04
import Derived.Test.YthpodbhiopnnbaaDoorK08
import Derived.Test.YthpodbhiopnnbaaDoorK07
import Derived.Test.YthpodbhiopnnbaaDoorK11
import Derived.Test.YthpodbhiopnnbaaDoorK20
import Derived.Test.YthpodbhiopnnbaaDoorK22
import Derived.Test.YthpodbhiopnnbaaDoorK24
namespace Go.Proofs.YthpodbhiopnnbaaDoor.ups
open Go.RowKit P2 words edges ints owns good adjs fns sets rets covs bags bitsI func gridr near
set_option linter.unusedVariables false

/-- put behind a list if it is not in it -/
def addR (R : List Nat) (c : Nat) : List Nat := if c ∈ R then R else R ++ [c]
theorem addR_mem {R : List Nat} {c x : Nat} : x ∈ addR R c ↔ x ∈ R ∨ x = c := by
  unfold addR
  split
  · rename_i h
    exact ⟨.inl, fun h2 => h2.elim id (fun e => e ▸ h)⟩
  · rw [List.mem_append, List.mem_singleton]
/-- the different sets of the first k lists -/
def rosT (q : List (List Int)) (k : Nat) : List Nat := (q.take k).foldl (fun R xs => addR R (codeL xs)) []
theorem rosT_succ {q : List (List Int)} {k : Nat} {xs : List Int} (h : q[k]? = some xs) : rosT q (k + 1) = addR (rosT q k) (codeL xs) := by
  unfold rosT
  rw [List.take_add_one, h, List.foldl_append]; rfl
theorem rosT_mem {q : List (List Int)} {x : Nat} : ∀ {k : Nat}, k ≤ q.length → (x ∈ rosT q k ↔ ∃ j xs, j < k ∧ q[j]? = some xs ∧ x = codeL xs)
  | 0, _ => ⟨fun h => by simp [rosT] at h, fun ⟨j, xs, h, _⟩ => by omega⟩
  | k + 1, hk => by
    obtain ⟨xs, hx⟩ : ∃ xs, q[k]? = some xs := ⟨_, List.getElem?_eq_getElem (by omega)⟩
    rw [rosT_succ hx, addR_mem, rosT_mem (k := k) (by omega)]
    constructor
    · rintro (⟨j, ys, h1, h2, h3⟩ | h)
      · exact ⟨j, ys, by omega, h2, h3⟩
      · exact ⟨k, xs, by omega, hx, h⟩
    · rintro ⟨j, ys, h1, h2, h3⟩
      by_cases e : j = k
      · subst e; rw [hx] at h2; cases h2; exact .inr h3
      · exact .inl ⟨j, ys, by omega, h2, h3⟩
theorem rosT_len (q : List (List Int)) : ∀ {k : Nat}, k ≤ q.length → (rosT q k).length ≤ k
  | 0, _ => Nat.le_refl _
  | k + 1, hk => by
    obtain ⟨xs, hx⟩ : ∃ xs, q[k]? = some xs := ⟨_, List.getElem?_eq_getElem (by omega)⟩
    rw [rosT_succ hx]
    have := rosT_len q (k := k) (by omega)
    unfold addR
    split
    · omega
    · rw [List.length_append, List.length_singleton]; omega
theorem rosT_pos {q : List (List Int)} (h : 0 < q.length) : 0 < (rosT q q.length).length := by
  obtain ⟨xs, hx⟩ : ∃ xs, q[0]? = some xs := ⟨_, List.getElem?_eq_getElem h⟩
  exact List.length_pos_of_mem ((rosT_mem (Nat.le_refl _)).2 ⟨0, xs, h, hx, rfl⟩)
/-- a list of sets of one size -/
def FamP (s : Int) (l : List Ed) (q : List (List Int)) : Prop := P2.Good s l ∧ q ≠ [] ∧ ∀ r ∈ q, SetOk s l r ∧ r.length = (q.headD []).length
theorem idxU_mem (R : List Nat) (c : Nat) : decide (idxF (fun y => y == c) R < 0) = !decide (c ∈ R) := by
  have h := idxF_any (fun y => y == c) R
  have h2 : decide (idxF (fun y => y == c) R < 0) = !decide (0 ≤ idxF (fun y => y == c) R) := by
    by_cases h3 : idxF (fun y => y == c) R < 0
    · rw [decide_eq_true h3, decide_eq_false (by omega)]; rfl
    · rw [decide_eq_false h3, decide_eq_true (by omega)]; rfl
  rw [h2, h]
  congr 1
  rw [Bool.eq_iff_iff, List.any_eq_true, decide_eq_true_iff]
  exact ⟨fun ⟨y, hy, e⟩ => by have : y = c := by simpa using e
                              subst this; exact hy, fun hc => ⟨c, hc, by simp⟩⟩
set_option maxHeartbeats 1000000 in
theorem indexR_any (u : Value) (xs : List Nat) (x : Nat) (w : World) (hu : Nums w u xs) (hxl : xs.length ≤ 1048576) :
    Calls Tryd.prog 109 #[u, .int .u64 (x : Int)] w fun e w' => e = .returned (.int .i64 (idxF (fun y => y == x) xs)) ∧ w = w' := by
  obtain ⟨A2, c2, rfl, hc⟩ := hu.form
  have HC := Lib.hid hc
  clear hu hc
  go_enter Tryd.func109, Tryd.ntmps109
  go_wp2_with fail
  go_loop [8] (fun i => ∃ k : Nat, k ≤ xs.length ∧ i = .int .i64 (k : Int) ∧ Hid (∀ j y, j < k → xs[j]? = some y → (y == x) = false)) (fun i => xs.length - (intOf i).toNat)
  case atStart => exact ⟨0, by omega, rfl, fun j e h => by omega⟩
  case round =>
    obtain ⟨k, hk, rfl, hno⟩ := hrel
    by_cases hlt : k < xs.length
    · have hlt' : (k : Int) < (xs.length : Int) := by omega
      obtain ⟨y, hy⟩ : ∃ y, xs[k]? = some y := ⟨_, List.getElem?_eq_getElem hlt⟩
      obtain ⟨g, o, rfl, c0⟩ := HC.out k y hy
      cases hp : (y == x) with
      | true =>
        have HN := Lib.hid (idxF_at (p := fun y => y == x) hno.out hy hp)
        have hp2 : (x == y) = true := by rw [BEq.comm]; exact hp
        have hp3 : ((x : Int) == (y : Int)) = true := by rw [beq_iff_eq] at hp2 ⊢; omega
        clear hy hp
        go_wp2_with fail
        go_ret
        exact ⟨ret_int HN.out.symm, rfl⟩
      | false =>
        have HK := Lib.hid (func.no_succ (p := fun y => y == x) hno.out hy hp)
        have hp2 : (x == y) = false := by rw [BEq.comm]; exact hp
        have hp3 : ((x : Int) == (y : Int)) = false := by rw [beq_eq_false_iff_ne] at hp2 ⊢; omega
        clear hy hp
        go_wp2_with fail
        go_round
        case rel => exact ⟨k + 1, by omega, by go_num, HK⟩
        case measure => simp [intOf]; omega
    · obtain rfl : k = xs.length := by omega
      have HN := Lib.hid (idxF_none hno.out)
      go_wp2_with fail
      go_ret
      exact ⟨ret_int HN.out.symm, rfl⟩
set_option maxHeartbeats 4000000 in
set_option maxRecDepth 100000 in
theorem placeOf_any (B b c : Nat) (v : Value) (R : List Nat) (w : World) (hb : Blk w b 113 #[v]) (hr : w.ownsRow B 64 1 v R.length (cellsU R)) (hB : B ≤ b) (hR : R.length ≤ 1048576) :
    Calls Tryd.prog 97 #[.pointer (some ⟨b, 0, none⟩), .int .u64 (c : Int)] w fun e w' => ∃ (z : Int) (v' : Value), e = .returned (.int .i64 z) ∧ Blk w' b 113 #[v'] ∧ w'.ownsRow B 64 1 v' (addR R c).length (cellsU (addR R c)) ∧ Below B w w' := by
  obtain ⟨i0, hi, hz0, hz1, hz2⟩ := info_parts infoU
  obtain ⟨A2, c2, rfl⟩ := own_form hr
  have p0 := hb.cell 0
  have HI := Lib.hid (indexR_any (.slice A2 R.length c2) R c w (Reads.of_own hr) hR)
  have hmem := idxU_mem R c
  have HB := Lib.hid hb
  have HR := Lib.hid hr
  have hbl := hb.lt
  have HNE := Lib.hid (mids.own_ne hr hb (by decide))
  by_cases hc : c ∈ R
  · rw [decide_eq_true hc] at hmem
    have HV : Hid (addR R c = R) := by show _ = _; unfold addR; rw [if_pos hc]
    clear hb hr hc
    generalize idxF (fun y => y == c) R = z at *
    have hz : decide (z < 0) = false := hmem
    clear hmem
    go_enter Tryd.func97, Tryd.ntmps97
    go_wp2_with fail
    refine HI.out.mono ?_
    rintro e w' ⟨rfl, rfl⟩
    go_wp2_with fail
    go_ret
    rw [HV.out]
    exact ⟨_, _, rfl, HB.out, HR.out, Below.refl _ _⟩
  · rw [decide_eq_false hc] at hmem
    have HV : Hid (addR R c = R ++ [c]) := by show _ = _; unfold addR; rw [if_neg hc]
    clear hb hr hc
    generalize idxF (fun y => y == c) R = z at *
    have hz : decide (z < 0) = true := hmem
    clear hmem
    have hown := HR.out
    go_enter Tryd.func97, Tryd.ntmps97
    go_wp2_with fail
    refine HI.out.mono ?_
    rintro e w' ⟨rfl, rfl⟩
    go_wp2_with (at_builtin; refine wpList_append_own _ rfl _ _ 113 rfl B 64 i0 (.int .u64 0) 1 8 Tryd.underlying113 hi hz0 hz1 hz2 rfl (by decide) _ _ _ rfl (hown.alloc _) ⟨w.heap.size, 0, none⟩ 1 1 [.int .u64 (c : Int)] rfl rfl (cell_one_new _ _ _) (fun x hx => by simp at hx; subst hx; rfl) (by unfold maxLen; omega) (by omega) (by simp; omega) ?_; intro v8 w8 hown8 hgrow8 _; obtain ⟨A8, c8, rfl⟩ := own_form hown8; have hb8 := (HB.out.alloc (.cells #[.int .u64 (c : Int)] 64)).grown hgrow8 (by first | exact HNE.out | exact Ne.symm HNE.out); have y0 := hb8.frozen 0; have y1 := hb8.cell 0)
    have HB9 : Hid (Blk (w8.setCell ⟨b, 0, none⟩ (.slice A8 (R.length + 1) c8)) b 113 #[(.slice A8 (R.length + 1) c8)]) := by
      have h_ := hb8.set_ 0 (.slice A8 (R.length + 1) c8)
      show Blk _ _ _ _
      simpa using h_
    have HR9 := Lib.hid (hown8.kept (gset (World.grownBy.refl w8 (some b)) 0 (.slice A8 (R.length + 1) c8)) (.inr (mids.own_ne hown8 hb8 (by decide))))
    have HE9 := Lib.hid ((((Below.refl B w).alloc (by omega) (.cells #[.int .u64 (c : Int)] 64)).grown hgrow8 (by simp; omega) (fun j e => (hown.lt j e).1)).setCell (p := ⟨b, 0, none⟩) hB (.slice A8 (R.length + 1) c8))
    clear hown8 hgrow8 hb8 y0 y1 hown
    go_ret
    rw [HV.out, List.length_append, show cellsU (R ++ [c]) = cellsU R ++ [.int .u64 (c : Int)] from by simp [cellsU]]
    exact ⟨_, (.slice A8 (R.length + 1) c8), rfl, HB9.out, HR9.out, HE9.out⟩
end Go.Proofs.YthpodbhiopnnbaaDoor.ups

/- Forcing: which nodes are coloured round by round: mathematics. -/
namespace Go.Proofs.YthpodbhiopnnbaaDoor.forc
open Go.RowKit P2 words edges ints good adjs fns sets rets covs bags bitsI ups
set_option linter.unusedVariables false

/-- a part of a set that has as many elements is the set -/
theorem sub_more {a b : Nat} (ha : a < 256) (hb : b < 256) (hs : ∀ k, a.testBit k = true → b.testBit k = true) (hne : a ≠ b) : onesN a < onesN b := by
  have hex : ∃ k, a.testBit k = false ∧ b.testBit k = true := by
    refine Classical.byContradiction fun hno => hne (Nat.eq_of_testBit_eq fun k => ?_)
    cases h1 : a.testBit k with
    | true => exact (hs k h1).symm
    | false =>
      cases h2 : b.testBit k with
      | false => rfl
      | true => exact absurd ⟨k, h1, h2⟩ hno
  obtain ⟨k, h1, h2⟩ := hex
  have hk : k < 8 := by
    by_cases e : k < 8
    · exact e
    · rw [Nat.testBit_lt_two_pow (Nat.lt_of_lt_of_le hb (by have h9 := Nat.pow_le_pow_right (show 0 < 2 by decide) (show 8 ≤ k by omega); simpa using h9))] at h2; cases h2
  have h3 := ones_put ha hk h1
  have h4 : onesN (a ||| 2 ^ k) ≤ onesN b := ones_mono fun j _ hj => by
    unfold bitB at hj ⊢
    rw [put_bit, Bool.or_eq_true, decide_eq_true_iff] at hj
    rcases hj with hj | rfl
    · exact hs j hj
    · exact h2
  omega
theorem num_ltN (p : Nat → Bool) (n : Nat) : numOf p n < 2 ^ n := Nat.lt_pow_two_of_testBit _ fun i hi => by rw [numOf_bit, decide_eq_false (by omega), Bool.false_and]
/-- the neighbors of a node that are not coloured -/
def lefB (l : List Ed) (c x z : Nat) : Bool := adj l (x : Int) (z : Int) && !c.testBit z
def lefN (n : Nat) (l : List Ed) (c x : Nat) : Nat := numOf (lefB l c x) n
def frcT (n : Nat) (l : List Ed) (sk : Bool) (c x : Nat) : Bool := (onesN (lefN n l c x) == 1) && (sk || c.testBit x)
def frcN (n : Nat) (l : List Ed) (sk : Bool) (c x : Nat) : Nat := if frcT n l sk c x = true then lefN n l c x else 0
theorem frc_yes {n : Nat} {l : List Ed} {sk : Bool} {c x : Nat} (h : frcT n l sk c x = true) : frcN n l sk c x = lefN n l c x := by unfold frcN; rw [if_pos h]
theorem frc_no {n : Nat} {l : List Ed} {sk : Bool} {c x : Nat} (h : frcT n l sk c x = false) : frcN n l sk c x = 0 := by unfold frcN; rw [if_neg (by simp [h])]
theorem lef_lt (n : Nat) (l : List Ed) (c x : Nat) : lefN n l c x < 2 ^ n := num_ltN _ _
theorem frc_lt (n : Nat) (l : List Ed) (sk : Bool) (c x : Nat) : frcN n l sk c x < 2 ^ n := by
  unfold frcN
  split
  · exact lef_lt n l c x
  · exact Nat.pow_pos (by decide)
/-- behind the first k nodes of a round -/
def onK (n : Nat) (l : List Ed) (sk : Bool) (c : Nat) : Nat → Nat
  | 0 => c
  | k + 1 => onK n l sk c k ||| frcN n l sk c k
/-- behind a round -/
def onN (n : Nat) (l : List Ed) (sk : Bool) (c : Nat) : Nat := onK n l sk c n
theorem onK_lt {n : Nat} {l : List Ed} {sk : Bool} {c : Nat} (hc : c < 2 ^ n) : ∀ k, onK n l sk c k < 2 ^ n
  | 0 => hc
  | k + 1 => Nat.or_lt_two_pow (onK_lt hc k) (frc_lt n l sk c k)
theorem onK_sub {n : Nat} {l : List Ed} {sk : Bool} {c j : Nat} (h : c.testBit j = true) : ∀ k, (onK n l sk c k).testBit j = true
  | 0 => h
  | k + 1 => by rw [onK, Nat.testBit_or, onK_sub h k]; rfl
theorem on_lt {n : Nat} {l : List Ed} {sk : Bool} {c : Nat} (hc : c < 2 ^ n) : onN n l sk c < 2 ^ n := onK_lt hc n
theorem on_more {n : Nat} {l : List Ed} {sk : Bool} {c : Nat} (hn : n ≤ 8) (hc : c < 2 ^ n) (h : onN n l sk c ≠ c) : onesN c < onesN (onN n l sk c) :=
  sub_more (Nat.lt_of_lt_of_le hc (pow_le hn)) (Nat.lt_of_lt_of_le (on_lt hc) (pow_le hn)) (fun k hk => onK_sub hk n) (Ne.symm h)
theorem on_same {n : Nat} {l : List Ed} {sk : Bool} {c : Nat} (hn : n ≤ 8) (hc : c < 2 ^ n) : onesN (onN n l sk c) = onesN c ↔ onN n l sk c = c :=
  ⟨fun h => Classical.byContradiction fun hne => by have := on_more hn hc hne; omega, fun h => by rw [h]⟩
/-- ahead of all rounds and behind each one that colours more -/
def rndL (n : Nat) (l : List Ed) (sk : Bool) : Nat → Nat → List Nat
  | 0, c => [c]
  | f + 1, c => if onN n l sk c = c then [c] else c :: rndL n l sk f (onN n l sk c)
/-- when no round colours more -/
def lastF (n : Nat) (l : List Ed) (sk : Bool) : Nat → Nat → Nat
  | 0, c => c
  | f + 1, c => if onN n l sk c = c then c else lastF n l sk f (onN n l sk c)
def rnds (n : Nat) (l : List Ed) (sk : Bool) (c : Nat) : List Nat := rndL n l sk 8 c
def lastN (n : Nat) (l : List Ed) (sk : Bool) (c : Nat) : Nat := lastF n l sk 8 c
theorem rnd_len (n : Nat) (l : List Ed) (sk : Bool) : ∀ f c, 1 ≤ (rndL n l sk f c).length ∧ (rndL n l sk f c).length ≤ f + 1
  | 0, c => ⟨Nat.le_refl _, Nat.le_refl _⟩
  | f + 1, c => by
    unfold rndL
    split
    · simp
    · have := rnd_len n l sk f (onN n l sk c)
      rw [List.length_cons]; omega
theorem rnd_last (n : Nat) (l : List Ed) (sk : Bool) : ∀ f c, (rndL n l sk f c)[(rndL n l sk f c).length - 1]? = some (lastF n l sk f c)
  | 0, c => rfl
  | f + 1, c => by
    unfold rndL lastF
    split
    · rfl
    · have h := rnd_last n l sk f (onN n l sk c)
      have h1 := (rnd_len n l sk f (onN n l sk c)).1
      rw [List.length_cons, Nat.add_sub_cancel]
      obtain ⟨m, hm⟩ : ∃ m, (rndL n l sk f (onN n l sk c)).length = m + 1 := ⟨(rndL n l sk f (onN n l sk c)).length - 1, by omega⟩
      rw [hm] at h ⊢
      simpa using h
theorem last_lt {n : Nat} {l : List Ed} {sk : Bool} : ∀ f {c : Nat}, c < 2 ^ n → lastF n l sk f c < 2 ^ n
  | 0, c, h => h
  | f + 1, c, h => by
    unfold lastF
    split
    · exact h
    · exact last_lt f (on_lt h)
theorem rnd_mem {n : Nat} {l : List Ed} {sk : Bool} : ∀ f {c : Nat}, c < 2 ^ n → ∀ d ∈ rndL n l sk f c, d < 2 ^ n
  | 0, c, h, d, hd => by simp [rndL] at hd; rw [hd]; exact h
  | f + 1, c, h, d, hd => by
    unfold rndL at hd
    split at hd
    · simp at hd; rw [hd]; exact h
    · rcases List.mem_cons.1 hd with e | hd
      · rw [e]; exact h
      · exact rnd_mem f (on_lt h) d hd
theorem last_ltN {n : Nat} {l : List Ed} {sk : Bool} {c : Nat} (hc : c < 2 ^ n) : lastN n l sk c < 2 ^ n := last_lt 8 hc
/-- what a loop over the rounds keeps -/
theorem rnd_stop {n : Nat} {l : List Ed} {sk : Bool} {f c : Nat} (h : onN n l sk c = c) : rndL n l sk f c = [c] ∧ lastF n l sk f c = c := by
  cases f with
  | zero => exact ⟨rfl, rfl⟩
  | succ f => unfold rndL lastF; rw [if_pos h, if_pos h]; exact ⟨rfl, rfl⟩
theorem rnd_go {n : Nat} {l : List Ed} {sk : Bool} {f c : Nat} (h : onN n l sk c ≠ c) : rndL n l sk (f + 1) c = c :: rndL n l sk f (onN n l sk c) ∧ lastF n l sk (f + 1) c = lastF n l sk f (onN n l sk c) := by
  constructor
  · rw [rndL, if_neg h]
  · rw [lastF, if_neg h]
/-- a fuel that lasts -/
theorem rnd_fuel {n : Nat} {l : List Ed} {sk : Bool} {f c : Nat} (hn : n ≤ 8) (hc : c < 2 ^ n) (hf : 8 ≤ onesN c + f) (h : onN n l sk c ≠ c) : ∃ g, f = g + 1 ∧ 8 ≤ onesN (onN n l sk c) + g := by
  have h1 := on_more hn hc h
  have h2 := ones_le (onN n l sk c)
  exact ⟨f - 1, by omega, by omega⟩
theorem full_on {n : Nat} {l : List Ed} {sk : Bool} : onN n l sk (2 ^ n - 1) = 2 ^ n - 1 := by
  apply Nat.eq_of_testBit_eq
  intro k
  have h1 : (2 ^ n - 1) < 2 ^ n := by have := Nat.pow_pos (n := n) (show 0 < 2 by decide); omega
  by_cases hk : k < n
  · have h2 : (2 ^ n - 1).testBit k = true := by rw [Nat.testBit_two_pow_sub_one]; simp [hk]
    rw [h2]; exact onK_sub h2 n
  · have h2 : ∀ z, z < 2 ^ n → z.testBit k = false := fun z hz => Nat.testBit_lt_two_pow (Nat.lt_of_lt_of_le hz (Nat.pow_le_pow_right (by decide) (by omega)))
    rw [h2 _ h1, h2 _ (on_lt h1)]
theorem full_last (n : Nat) (l : List Ed) (sk : Bool) : lastN n l sk (2 ^ n - 1) = 2 ^ n - 1 := (rnd_stop full_on).2
/-- the one node that is left -/
theorem one_bit {c : Nat} (h8 : c < 256) (h : onesN c = 1) : ∃ y, y < 8 ∧ c = 2 ^ y :=
  have : ∀ c : Fin 256, onesN c.1 = 1 → ∃ y : Fin 8, c.1 = 2 ^ y.1 := by decide +kernel
  let ⟨y, hy⟩ := this ⟨c, h8⟩ h
  ⟨y.1, y.2, hy⟩
end Go.Proofs.YthpodbhiopnnbaaDoor.forc

/- Forcing: the number of the round in which a node is coloured, and forts: mathematics. -/
namespace Go.Proofs.YthpodbhiopnnbaaDoor.forc
open Go.RowKit P2 words edges ints good adjs fns sets rets covs bags bitsI ups func
set_option linter.unusedVariables false

/-- behind k rounds -/
def orb (n : Nat) (l : List Ed) (sk : Bool) (c : Nat) : Nat → Nat
  | 0 => c
  | k + 1 => onN n l sk (orb n l sk c k)
theorem orb_lt {n : Nat} {l : List Ed} {sk : Bool} {c : Nat} (hc : c < 2 ^ n) : ∀ k, orb n l sk c k < 2 ^ n
  | 0 => hc
  | k + 1 => on_lt (orb_lt hc k)
theorem orb_from {n : Nat} {l : List Ed} {sk : Bool} (c : Nat) : ∀ k, orb n l sk (onN n l sk c) k = orb n l sk c (k + 1)
  | 0 => rfl
  | k + 1 => by show onN n l sk _ = onN n l sk _; rw [orb_from c k]
theorem orb_stop {n : Nat} {l : List Ed} {sk : Bool} {c : Nat} (h : onN n l sk c = c) : ∀ k, orb n l sk c k = c
  | 0 => rfl
  | k + 1 => by show onN n l sk _ = c; rw [orb_stop h k, h]
theorem rnd_orb {n : Nat} {l : List Ed} {sk : Bool} : ∀ (f c j : Nat), j < (rndL n l sk f c).length → (rndL n l sk f c)[j]? = some (orb n l sk c j)
  | 0, c, j, h => by
    have : j = 0 := by simp [rndL] at h; exact h
    subst this; rfl
  | f + 1, c, j, h => by
    unfold rndL at h ⊢
    split at h
    · rename_i e
      rw [if_pos e]
      have : j = 0 := by simpa using h
      subst this; rfl
    · rename_i e
      rw [if_neg e]
      cases j with
      | zero => rfl
      | succ j =>
        rw [List.getElem?_cons_succ, rnd_orb f _ j (by rw [List.length_cons] at h; omega), orb_from]
theorem rnd_len8 {n : Nat} {l : List Ed} {sk : Bool} (hn : n ≤ 8) : ∀ (f : Nat) {c : Nat}, c < 2 ^ n → (rndL n l sk f c).length + onesN c ≤ n + 1
  | 0, c, hc => by have := ones_topN hn hc; show 1 + _ ≤ _; omega
  | f + 1, c, hc => by
    unfold rndL
    split
    · have := ones_topN hn hc; rw [List.length_cons, List.length_nil]; omega
    · rename_i e
      have h1 := rnd_len8 (l := l) (sk := sk) hn f (c := onN n l sk c) (on_lt hc)
      have h2 := on_more hn hc e
      rw [List.length_cons]; omega
theorem rnd_tail {n : Nat} {l : List Ed} {sk : Bool} (hn : n ≤ 8) : ∀ (f : Nat) {c : Nat}, c < 2 ^ n → 8 ≤ onesN c + f → ∀ j, (rndL n l sk f c).length ≤ j + 1 → orb n l sk c j = lastF n l sk f c
  | 0, c, hc, hf, j, hj => by
    have h8 := ones_le (onN n l sk c)
    have : onN n l sk c = c := Classical.byContradiction fun e => by have := on_more hn hc e; omega
    exact orb_stop this j
  | f + 1, c, hc, hf, j, hj => by
    unfold rndL at hj
    unfold lastF
    split at hj
    · rename_i e
      rw [if_pos e]; exact orb_stop e j
    · rename_i e
      rw [if_neg e]
      have h2 := on_more hn hc e
      have h1 := (rnd_len n l sk f (onN n l sk c)).1
      rw [List.length_cons] at hj
      obtain ⟨i, rfl⟩ : ∃ i, j = i + 1 := ⟨j - 1, by omega⟩
      rw [← orb_from]
      exact rnd_tail hn f (on_lt hc) (by omega) i (by omega)
theorem last_orb {n : Nat} {l : List Ed} {sk : Bool} (hn : n ≤ 8) {c : Nat} (hc : c < 2 ^ n) : ∀ j, n ≤ j → orb n l sk c j = lastN n l sk c := fun j hj =>
  rnd_tail hn 8 hc (by omega) j (by have := rnd_len8 (l := l) (sk := sk) hn 8 hc; omega)
theorem last_fix {n : Nat} {l : List Ed} {sk : Bool} (hn : n ≤ 8) {c : Nat} (hc : c < 2 ^ n) : onN n l sk (lastN n l sk c) = lastN n l sk c := by
  rw [← last_orb hn hc n (Nat.le_refl _)]
  show orb n l sk c (n + 1) = _
  rw [last_orb hn hc n (Nat.le_refl _), last_orb hn hc (n + 1) (by omega)]
/-- the round in which a node is coloured, of the first r -/
def fstR (n : Nat) (l : List Ed) (c x : Nat) : Nat → Int
  | 0 => if c.testBit x = true then 0 else -1
  | r + 1 => if fstR n l c x r < 0 ∧ (orb n l false c (r + 1)).testBit x = true then ((r + 1 : Nat) : Int) else fstR n l c x r
theorem fst_is (n : Nat) (l : List Ed) (c x : Nat) : ∀ r, (fstR n l c x r = -1 ∧ ∀ j, j ≤ r → (orb n l false c j).testBit x = false) ∨ ∃ j : Nat, fstR n l c x r = (j : Int) ∧ j ≤ r ∧ (orb n l false c j).testBit x = true ∧ ∀ i, i < j → (orb n l false c i).testBit x = false
  | 0 => by
    unfold fstR
    by_cases h : c.testBit x = true
    · rw [if_pos h]; exact .inr ⟨0, rfl, Nat.le_refl _, h, fun i hi => by omega⟩
    · rw [if_neg h]
      refine .inl ⟨rfl, fun j hj => ?_⟩
      have : j = 0 := by omega
      subst this; rw [orb]; simpa using h
  | r + 1 => by
    rcases fst_is n l c x r with ⟨h1, h2⟩ | ⟨j, h1, h2, h3, h4⟩
    · unfold fstR
      by_cases h : (orb n l false c (r + 1)).testBit x = true
      · rw [if_pos ⟨by omega, h⟩]
        exact .inr ⟨r + 1, rfl, Nat.le_refl _, h, fun i hi => h2 i (by omega)⟩
      · rw [if_neg (fun hh => h hh.2)]
        refine .inl ⟨h1, fun j hj => ?_⟩
        by_cases e : j = r + 1
        · subst e; simpa using h
        · exact h2 j (by omega)
    · unfold fstR
      rw [if_neg (fun hh => by omega)]
      exact .inr ⟨j, h1, by omega, h3, h4⟩
theorem fst_idx {n : Nat} {l : List Ed} {c x : Nat} (hn : n ≤ 8) (hc : c < 2 ^ n) : idxF (fun d => Nat.testBit d x) (rnds n l false c) = fstR n l c x n := by
  have hl := rnd_len8 (l := l) (sk := false) hn 8 hc
  rcases fst_is n l c x n with ⟨h1, h2⟩ | ⟨j, h1, h2, h3, h4⟩
  · rw [h1]
    refine idxF_none fun i z hi hz => ?_
    have := rnd_orb (n := n) (l := l) (sk := false) 8 c i hi
    rw [show rndL n l false 8 c = rnds n l false c from rfl, hz] at this
    cases this
    exact h2 i (by change i < (rndL n l false 8 c).length at hi; omega)
  · rw [h1]
    have hj : j < (rnds n l false c).length := by
      refine Classical.byContradiction fun hno => ?_
      have hno' : (rndL n l false 8 c).length ≤ j := by change ¬ j < (rndL n l false 8 c).length at hno; omega
      have hl1 := (rnd_len n l false 8 c).1
      have e1 := rnd_tail hn 8 hc (by omega) j (by omega) (l := l) (sk := false)
      have e2 := rnd_tail hn 8 hc (by omega) ((rndL n l false 8 c).length - 1) (by omega) (l := l) (sk := false)
      have := h4 ((rndL n l false 8 c).length - 1) (by omega)
      rw [e2, ← e1, h3] at this; cases this
    refine idxF_at (y := orb n l false c j) (fun i z hi hz => ?_) (rnd_orb 8 c j hj) h3
    have := rnd_orb (n := n) (l := l) (sk := false) 8 c i (by change j < (rndL n l false 8 c).length at hj; omega)
    rw [show rndL n l false 8 c = rnds n l false c from rfl, hz] at this
    cases this
    exact h4 i hi
theorem fst_same {n : Nat} {l : List Ed} {c x r : Nat} (h : (orb n l false c (r + 1)).testBit x = false) : fstR n l c x (r + 1) = fstR n l c x r := by
  rw [fstR, if_neg (fun hh => by rw [h] at hh; exact absurd hh.2 (by decide))]
theorem fst_keep {n : Nat} {l : List Ed} {c x r : Nat} (h : ¬ fstR n l c x r < 0) : fstR n l c x (r + 1) = fstR n l c x r := by
  rw [fstR, if_neg (fun hh => h hh.1)]
theorem fst_new {n : Nat} {l : List Ed} {c x r : Nat} (h : fstR n l c x r < 0) (h2 : (orb n l false c (r + 1)).testBit x = true) : fstR n l c x (r + 1) = ((r + 1 : Nat) : Int) := by
  rw [fstR, if_pos ⟨h, h2⟩]
theorem fst_range (n : Nat) (l : List Ed) (c x r : Nat) : -1 ≤ fstR n l c x r ∧ fstR n l c x r ≤ (r : Int) := by
  rcases fst_is n l c x r with ⟨h1, h2⟩ | ⟨j, h1, h2, h3, h4⟩ <;> omega
def fstL (n : Nat) (l : List Ed) (c r : Nat) : List Int := (List.range n).map fun x => fstR n l c x r
theorem fstL_len (n : Nat) (l : List Ed) (c r : Nat) : (fstL n l c r).length = n := by simp [fstL]

/-- forts -/
def frtB (n : Nat) (l : List Ed) (c : Nat) : Bool := (List.range n).all (fun x => c.testBit x || !(insN l c x == 1)) && !(c == 0)
theorem frt_iff {n : Nat} {l : List Ed} {c : Nat} : frtB n l c = true ↔ (∀ x, x < n → c.testBit x = false → insN l c x ≠ 1) ∧ c ≠ 0 := by
  unfold frtB
  rw [Bool.and_eq_true, List.all_eq_true]
  constructor
  · rintro ⟨h1, h2⟩
    refine ⟨fun x hx hb => ?_, by simpa using h2⟩
    have := h1 x (List.mem_range.2 hx)
    rw [hb, Bool.false_or] at this
    simpa using this
  · rintro ⟨h1, h2⟩
    refine ⟨fun x hx => ?_, by simpa using h2⟩
    cases hb : c.testBit x with
    | true => rfl
    | false => simpa using h1 x (List.mem_range.1 hx) hb
theorem frt_stop {n : Nat} {l : List Ed} {c x : Nat} (hx : x < n) (hb : c.testBit x = false) (h : insN l c x = 1) : frtB n l c = false := by
  cases hf : frtB n l c with
  | false => rfl
  | true => exact absurd h ((frt_iff.1 hf).1 x hx hb)
theorem frt_end {n : Nat} {l : List Ed} {c : Nat} (h : ∀ x, x < n → ¬ (c.testBit x = false ∧ insN l c x = 1)) : frtB n l c = !(c == 0) := by
  cases hc : c == 0 with
  | true =>
    cases hf : frtB n l c with
    | false => rfl
    | true => exact absurd (by simpa using hc) (frt_iff.1 hf).2
  | false => exact frt_iff.2 ⟨fun x hx hb e => h x hx ⟨hb, e⟩, by simpa using hc⟩
end Go.Proofs.YthpodbhiopnnbaaDoor.forc

/- The least forts, in order: mathematics. -/
namespace Go.Proofs.YthpodbhiopnnbaaDoor.forc
open Go.RowKit P2 words edges ints good adjs fns sets rets covs bags bitsI ups func
set_option linter.unusedVariables false

/-- a set is part of another one -/
def subB (f c : Nat) : Bool := f &&& c == f
theorem subB_iff {f c : Nat} : subB f c = true ↔ ∀ z, f.testBit z = true → c.testBit z = true := by
  unfold subB
  rw [beq_iff_eq]
  constructor
  · intro h z hz
    have : (f &&& c).testBit z = true := by rw [h]; exact hz
    rw [Nat.testBit_and, Bool.and_eq_true] at this
    exact this.2
  · intro h
    apply Nat.eq_of_testBit_eq
    intro z
    rw [Nat.testBit_and]
    cases hf : f.testBit z with
    | false => rfl
    | true => rw [h z hf]; rfl
def ftsF (n : Nat) (l : List Ed) (acc : List Nat) (c : Nat) : List Nat := if (frtB n l c && !(acc.any fun f => subB f c)) = true then acc ++ [c] else acc
def ftsT (n : Nat) (l : List Ed) (S : List Nat) : List Nat := S.foldl (ftsF n l) []
theorem fts_succ {n : Nat} {l : List Ed} {S : List Nat} {i c : Nat} (h : S[i]? = some c) : ftsT n l (S.take (i + 1)) = ftsF n l (ftsT n l (S.take i)) c := by
  unfold ftsT
  rw [List.take_add_one, h, List.foldl_append]
  rfl
theorem fts_sub {n : Nat} {l : List Ed} (S : List Nat) : ∀ acc, (∀ f ∈ S.foldl (ftsF n l) acc, f ∈ acc ∨ f ∈ S) ∧ (S.foldl (ftsF n l) acc).length ≤ acc.length + S.length := by
  induction S with
  | nil => intro acc; exact ⟨fun f hf => .inl hf, Nat.le_refl _⟩
  | cons c S ih =>
    intro acc
    obtain ⟨h1, h2⟩ := ih (ftsF n l acc c)
    constructor
    · intro f hf
      rcases h1 f hf with h | h
      · unfold ftsF at h
        split at h
        · rw [List.mem_append, List.mem_singleton] at h
          rcases h with h | rfl
          · exact .inl h
          · exact .inr (List.mem_cons_self ..)
        · exact .inl h
      · exact .inr (List.mem_cons_of_mem _ h)
    · rw [List.foldl_cons]
      have h3 : (ftsF n l acc c).length ≤ acc.length + 1 := by
        unfold ftsF
        split
        · rw [List.length_append]; exact Nat.le_refl _
        · omega
      rw [List.length_cons]; omega
theorem fts_mem {n : Nat} {l : List Ed} {S : List Nat} {f : Nat} (h : f ∈ ftsT n l S) : f ∈ S := by
  rcases (fts_sub S []).1 f h with h | h
  · cases h
  · exact h
theorem fts_len (n : Nat) (l : List Ed) (S : List Nat) : (ftsT n l S).length ≤ S.length := by
  have h := (fts_sub (n := n) (l := l) S []).2
  show (S.foldl (ftsF n l) []).length ≤ _
  simpa using h
theorem fts_yes {n : Nat} {l : List Ed} {acc : List Nat} {c : Nat} (h1 : frtB n l c = true) (h2 : (acc.any fun f => subB f c) = false) : ftsF n l acc c = acc ++ [c] := by
  unfold ftsF; rw [h1, h2]; rfl
theorem fts_no {n : Nat} {l : List Ed} {acc : List Nat} {c : Nat} (h : frtB n l c = false ∨ (acc.any fun f => subB f c) = true) : ftsF n l acc c = acc := by
  unfold ftsF
  rcases h with h | h
  · rw [h]; rfl
  · rw [h, Bool.not_true, Bool.and_false]; rfl
theorem sub_walk {n f c : Nat} (hn : n ≤ 8) (hf : f < 2 ^ n) (hc : c < 2 ^ n) : (bits .andNot .u64 (f : Int) (c : Int) == 0) = subB f c := by
  have hp := pow_le hn
  have hcn : numOf (bitB c) n = c := by
    apply Nat.eq_of_testBit_eq
    intro i
    rw [numOf_bit]
    unfold bitB
    by_cases hi : i < n
    · simp [hi]
    · rw [decide_eq_false hi, Bool.false_and, Nat.testBit_lt_two_pow (Nat.lt_of_lt_of_le hc (Nat.pow_le_pow_right (by decide) (by omega)))]
  have h2 := andNot_num f (bitB c) n (by omega) hn (fun z => f.testBit z && !c.testBit z) (fun z _ => by
    unfold bitB
    by_cases hz : z < n
    · simp [hz]
    · have : f.testBit z = false := Nat.testBit_lt_two_pow (Nat.lt_of_lt_of_le hf (Nat.pow_le_pow_right (by decide) (by omega)))
      simp [this])
  rw [hcn] at h2
  rw [h2, Bool.eq_iff_iff, beq_iff_eq, subB_iff, show ((numOf (fun z => f.testBit z && !c.testBit z) n : Nat) : Int) = 0 ↔ numOf (fun z => f.testBit z && !c.testBit z) n = 0 from by omega, numOf_zero]
  constructor
  · intro h z hz
    have hzn : z < n := by
      by_cases e : z < n
      · exact e
      · rw [Nat.testBit_lt_two_pow (Nat.lt_of_lt_of_le hf (Nat.pow_le_pow_right (by decide) (by omega)))] at hz; cases hz
    have := h z hzn
    rw [hz] at this
    simpa using this
  · intro h z _
    cases hz : f.testBit z with
    | false => rfl
    | true => rw [h z hz]; rfl
/-- the least forts as lists -/
def ftsL (s : Int) (l : List Ed) : List (List Int) := (ftsT s.toNat l (setsN s.toNat s.toNat)).map ndN
end Go.Proofs.YthpodbhiopnnbaaDoor.forc

/- Forts: the contracts of the program's isFort and IsFort. -/
namespace Go.Proofs.YthpodbhiopnnbaaDoor.forc
open Go.RowKit P2 words edges ints good adjs fns sets rets covs bags bitsI ups func
set_option linter.unusedVariables false

def FrtP (s : Int) (l : List Ed) (xs : List Int) : Prop := SetOk s l xs ∧ frtB s.toNat l (codeL xs) = true
theorem frtP_is {n : Nat} {l : List Ed} {xs : List Int} (h : SetOk (n : Int) l xs) : okG (FrtP (n : Int) l xs) = frtB n l (codeL xs) := by
  rw [Bool.eq_iff_iff, okG_iff]
  unfold FrtP
  rw [Int.toNat_natCast]
  exact ⟨fun h => h.2, fun h2 => ⟨h, h2⟩⟩
end Go.Proofs.YthpodbhiopnnbaaDoor.forc

/- The least forts, in order: the contract of the program's FortsOf. -/
namespace Go.Proofs.YthpodbhiopnnbaaDoor.forc
open Go.RowKit P2 words edges ints good adjs fns sets rets covs bags bitsI ups func grid gridr
set_option linter.unusedVariables false

theorem containsFuncU_any (u : Value) (xs : List Nat) (f : FuncId) (caps : Array Value) (p : Nat → Bool) (w : World) (hu : Nums w u xs) (hxl : xs.length ≤ 1048576) (h : FnU w f caps xs p) :
    Calls Tryd.prog 68 #[u, .func (.func f) #[] caps] w fun e w' => e = .returned (.bool (xs.any p)) ∧ Below w.heap.size w w' := by
  have HI := Lib.hid (indexFuncU_any u xs f caps p w hu hxl h)
  have HD := Lib.hid (idxF_any p xs)
  obtain ⟨A2, c2, rfl, -⟩ := hu.form
  clear hu h
  go_enter Tryd.func68, Tryd.ntmps68
  go_wp2_with fail
  refine HI.out.mono ?_
  rintro e w1 ⟨rfl, b1⟩
  go_wp2_with fail
  go_ret
  exact ⟨ret_bool HD.out, b1⟩
end Go.Proofs.YthpodbhiopnnbaaDoor.forc

/- Guards: the contracts of the program's familyOf and IsEternalFamily. -/
namespace Go.Proofs.YthpodbhiopnnbaaDoor.ups
open Go.RowKit P2 words edges ints owns good adjs fns sets rets covs bags bitsI func gridr near forc least
set_option linter.unusedVariables false

/-- an eternal family -/
def EtP (s : Int) (l : List Ed) (all : Bool) (q : List (List Int)) : Prop := FamP s l q ∧ ∀ r ∈ q, holdB s.toNat l all (q.map codeL) (codeL r) = true
theorem hold_congr {n : Nat} {l : List Ed} {all : Bool} {U V : List Nat} {a : Nat} (h : ∀ c, c ∈ U ↔ c ∈ V) : holdB n l all U a = holdB n l all V a := by
  unfold holdB
  congr 1
  funext x
  congr 1
  rw [Bool.eq_iff_iff, List.any_eq_true, List.any_eq_true]
  exact ⟨fun ⟨c, hc, h2⟩ => ⟨c, (h c).1 hc, h2⟩, fun ⟨c, hc, h2⟩ => ⟨c, (h c).2 hc, h2⟩⟩
theorem ros_map {q : List (List Int)} {c : Nat} : c ∈ rosT q q.length ↔ c ∈ q.map codeL := by
  rw [rosT_mem (Nat.le_refl _), List.mem_map]
  constructor
  · rintro ⟨j, xs, _, h, e⟩
    exact ⟨xs, List.mem_of_getElem? h, e.symm⟩
  · rintro ⟨xs, h, e⟩
    obtain ⟨j, hj⟩ := List.getElem?_of_mem h
    exact ⟨j, xs, (List.getElem?_eq_some_iff.1 hj).1, hj, e.symm⟩
theorem et_all {n : Nat} {l : List Ed} {all : Bool} {q : List (List Int)} (h : FamP (n : Int) l q) : okG (EtP (n : Int) l all q) = !((rosT q q.length).any fun a => !holdB n l all (rosT q q.length) a) := by
  rw [Bool.eq_iff_iff, okG_iff, Bool.not_eq_true', List.any_eq_false]
  unfold EtP
  rw [Int.toNat_natCast]
  constructor
  · rintro ⟨_, h2⟩ a ha
    obtain ⟨xs, hx, rfl⟩ := List.mem_map.1 (ros_map.1 ha)
    rw [hold_congr (V := q.map codeL) (fun c => ros_map), h2 xs hx]; decide
  · intro h2
    refine ⟨h, fun r hr => ?_⟩
    have h3 := h2 (codeL r) (ros_map.2 (List.mem_map.2 ⟨r, hr, rfl⟩))
    rw [hold_congr (V := q.map codeL) (fun c => ros_map)] at h3
    simpa using h3
/-- what familyOf returns: the different sets and true, or false -/
def RetFa (w : World) (s : Int) (l : List Ed) (q : List (List Int)) (e : Ending) (w' : World) : Prop :=
  ∃ A N c, e = .returned (.tuple #[.slice A N c, .bool (okG (FamP s l q))]) ∧ (FamP s l q → N = (rosT q q.length).length ∧ w'.ownsRow w.heap.size 64 1 (.slice A N c) N (cellsU (rosT q q.length))) ∧ Below w.heap.size w w'
theorem RetFa.no {w w' : World} {s : Int} {l : List Ed} {q : List (List Int)} (h : ¬ FamP s l q) (hb : Below w.heap.size w w') : RetFa w s l q (.returned (.tuple #[.slice none 0 0, .bool false])) w' :=
  ⟨none, 0, 0, by rw [okG_no h], fun h2 => absurd h2 h, hb⟩
theorem fam_no {s : Int} {l : List Ed} {q : List (List Int)} {k : Nat} {r r0 : List Int} (h0 : q[0]? = some r0) (hk : q[k]? = some r) (h : ¬ (SetOk s l r ∧ r.length = r0.length)) : ¬ FamP s l q := fun hf => h (by
  have h2 := hf.2.2 r (List.mem_of_getElem? hk)
  refine ⟨h2.1, ?_⟩
  rw [h2.2]
  cases q with
  | nil => cases h0
  | cons a b => cases h0; rfl)
theorem fam_yes {s : Int} {l : List Ed} {q : List (List Int)} {r0 : List Int} (h0 : q[0]? = some r0) (h : ∀ (j : Nat) r, j < q.length → q[j]? = some r → SetOk s l r ∧ r.length = r0.length) : FamP s l q := by
  cases q with
  | nil => cases h0
  | cons a b =>
    obtain rfl : a = r0 := by simpa using h0
    refine ⟨(h 0 a (by simp) rfl).1.1, by simp, fun r hr => ?_⟩
    obtain ⟨j, hj⟩ := List.getElem?_of_mem hr
    exact h j r (List.getElem?_eq_some_iff.1 hj).1 hj
set_option maxHeartbeats 8000000 in
set_option maxRecDepth 100000 in
theorem familyOf_any (s : Int) (v : Value) (A2 : Option Addr) (c2 : Nat) (us : List Value) (q : List (List Int)) (l : List Ed) (w : World) (h : Edges w v l) (hl : l.length ≤ 1048576) (ht : ReadsG w (.slice A2 q.length c2) us q) (hql : q.length ≤ 1048576) (hqr : ∀ r ∈ q, r.length ≤ 1048576) :
    Calls Tryd.prog 66 #[.agg #[.int .i64 s, v], .slice A2 q.length c2] w (RetFa w s l q) := by
  obtain ⟨A, c, rfl, -⟩ := h.form
  have H := Lib.hid h
  have HT := Lib.hid ht
  obtain ⟨wg, hwg⟩ : ∃ wg, wg = w.alloc (.cells #[.int .i64 s, .slice A l.length c] 29) := ⟨_, rfl⟩
  have b0 : Below w.heap.size w wg := by rw [hwg]; exact (Below.refl _ _).alloc (Nat.le_refl _) _
  have g0 : Blk wg w.heap.size 29 #[.int .i64 s, .slice A l.length c] := by rw [hwg]; exact Blk.new _ _ _
  have hzg : wg.heap.size = w.heap.size + 1 := by rw [hwg]; simp
  have HB0 := Lib.hid b0
  have HG0 := Lib.hid g0
  have HWG := Lib.hid hwg
  have HS := Lib.hid (fun (xs : List Int) (u : Value) (W : World) (hW : Below w.heap.size w W) (hu : Ints W u xs) (hx : xs.length ≤ 1048576) => hasSet_any s (.slice A l.length c) u l xs W (H.out.below hW) hl hu hx)
  have HBO := Lib.hid (fun (xs : List Int) (u : Value) (W : World) (hu : Ints W u xs) (hx : xs.length ≤ 1048576) (hs : SetOk s l xs) => bitsOf_any u xs W hu hx (fun x hx => by have := hs.2.1 x hx; have := hs.1.2.1; omega))
  have HPO := Lib.hid (fun (c : Nat) (v : Value) (R : List Nat) (W : World) (hb : Blk W wg.heap.size 113 #[v]) (hr : W.ownsRow wg.heap.size 64 1 v R.length (cellsU R)) (hR : R.length ≤ 1048576) => placeOf_any wg.heap.size wg.heap.size c v R W hb hr (Nat.le_refl _) hR)
  have HR0 : Hid (rosT q 0 = []) := rfl
  have HA0 : Hid (∀ (j : Nat) r, j < 0 → q[j]? = some r → SetOk s l r ∧ r.length = (q.headD []).length) := fun j r hj => absurd hj (Nat.not_lt_zero _)
  have HV0 : Hid (Blk (wg.alloc (.cells #[.slice none 0 0] 113)) wg.heap.size 113 #[.slice none 0 0]) := Blk.new _ _ _
  have HD0 : Hid (Below wg.heap.size wg (wg.alloc (.cells #[.slice none 0 0] 113))) := (Below.refl _ _).alloc (Nat.le_refl _) _
  clear h b0 g0 ht hwg
  go_enter Tryd.func66, Tryd.ntmps66
  go_wp2_with fail
  rw [← hzg, ← HWG.out]
  clear hzg
  go_loopg [11] q.length (fun g iv wr => ∃ (k : Nat) (vv : Value), k + g = q.length ∧ iv = .int .i64 (k : Int) ∧ Hid (∀ (j : Nat) r, j < k → q[j]? = some r → SetOk s l r ∧ r.length = (q.headD []).length) ∧ Blk wr wg.heap.size 113 #[vv] ∧ wr.ownsRow wg.heap.size 64 1 vv (rosT q k).length (cellsU (rosT q k)) ∧ Below wg.heap.size wg wr)
  case atStart => exact ⟨0, _, by omega, rfl, HA0, HV0.out, World.ownsRow_nil _ _ _ _, HD0.out⟩
  case round =>
    clear HA0 HV0 HD0
    obtain ⟨k, vv, hkg, rfl, hall, hvb, hrow, hB⟩ := hrel
    obtain ⟨Av, cv, rfl⟩ := own_form hrow
    have HB := Lib.hid hB
    have HVB := Lib.hid hvb
    have HROW := Lib.hid hrow
    have HE := Lib.hid (btrans HB0.out hB)
    have HG := Lib.hid (HG0.out.below hB HG0.out.lt)
    have hrl := rosT_len q (k := k) (by omega)
    obtain ⟨p0, p1, -, -⟩ := HG.out.two
    have v0 : wr.cell? ⟨wg.heap.size, 0, none⟩ = some (.slice Av (rosT q k).length cv) := hvb.cell 0
    cases gk with
    | zero =>
      obtain rfl : k = q.length := by omega
      have HV : Hid (okG (FamP s l q) = decide (0 < (rosT q q.length).length)) := by
        show _ = _
        cases hq : q with
        | nil =>
          rw [okG_no (fun h => h.2.1 rfl)]; rfl
        | cons a b =>
          rw [← hq]
          have hp : 0 < q.length := by rw [hq]; simp
          have h0 : q[0]? = some a := by rw [hq]; rfl
          rw [decide_eq_true (rosT_pos hp)]
          exact okG_yes (fam_yes h0 fun j r hj hr => by
            have := hall.out j r hj hr
            rw [show q.headD [] = a from by rw [hq]; rfl] at this
            exact this)
      clear hrow hvb hB hall
      generalize hRE : rosT q q.length = R at *
      have HRE := Lib.hid hRE
      clear hRE
      go_wp2_with fail
      refine wp_region_held_drew (S := (fun w' : World => w'.cell? ⟨wg.heap.size, 0, none⟩ = some (.slice Av R.length cv))) (by kernel_rfl) (by (try dsimp only); simp [*]) (fun hHeld => ?_)
      change wpAnyH _ _ _ _ _ _ #[false, false, false, false, false, false] _ _
      refine wpAnyH_take (i := 0) (oi := ⟨some 32, _, _, _, _, _⟩) (v := ?_) rfl (by kernel_rfl) (by kernel_rfl) (by kernel_rfl) (fun _ _ _ h => h) (Or.inl ⟨by rfl, ?_⟩) (by assumption) ?_
      rotate_left
      · (intro w hSw; (try dsimp only at hSw); go_simp; (try (with_reducible rfl)))
      try simp only [Act.put, List.setIfInBounds_toArray, List.set_cons_zero, List.set_cons_succ]
      refine wpAnyH_take (i := 1) (oi := ⟨some 33, _, _, _, _, _⟩) (v := ?_) rfl (by kernel_rfl) (by kernel_rfl) (by kernel_rfl) (fun _ _ _ h => h) (Or.inl ⟨by rfl, ?_⟩) (by assumption) ?_
      rotate_left
      · (intro w hSw; (try dsimp only at hSw); go_simp; (try (with_reducible rfl)))
      try simp only [Act.put, List.setIfInBounds_toArray, List.set_cons_zero, List.set_cons_succ]
      refine wpAnyH_take (i := 2) (oi := ⟨some 34, _, _, _, _, _⟩) (v := ?_) rfl (by kernel_rfl) (by kernel_rfl) (by kernel_rfl) (fun _ _ _ h => h) (Or.inl ⟨by rfl, ?_⟩) (by assumption) ?_
      rotate_left
      · (intro w hSw; (try dsimp only at hSw); go_simp; (try (with_reducible rfl)))
      try simp only [Act.put, List.setIfInBounds_toArray, List.set_cons_zero, List.set_cons_succ]
      refine wpAnyH_take (i := 3) (oi := ⟨some 35, _, _, _, _, _⟩) (v := ?_) rfl (by kernel_rfl) (by kernel_rfl) (by kernel_rfl) (fun _ _ _ h => h) (Or.inl ⟨by rfl, ?_⟩) (by assumption) ?_
      rotate_left
      · (intro w hSw; (try dsimp only at hSw); go_simp; (try (with_reducible rfl)))
      try simp only [Act.put, List.setIfInBounds_toArray, List.set_cons_zero, List.set_cons_succ]
      refine wpAnyH_take (i := 4) (oi := ⟨some 4, _, _, _, _, _⟩) (v := ?_) rfl (by kernel_rfl) (by kernel_rfl) (by kernel_rfl) (fun _ _ _ h => h) (Or.inl ⟨by rfl, ?_⟩) (by assumption) ?_
      rotate_left
      · (intro w hSw; (try dsimp only at hSw); go_simp; (try (with_reducible rfl)))
      try simp only [Act.put, List.setIfInBounds_toArray, List.set_cons_zero, List.set_cons_succ]
      refine wpAnyH_take (i := 5) (oi := ⟨some 5, _, _, _, _, _⟩) (v := ?_) rfl (by kernel_rfl) (by kernel_rfl) (by kernel_rfl) (fun _ _ _ h => h) (Or.inl ⟨by rfl, ?_⟩) (by assumption) ?_
      rotate_left
      · (intro w hSw; (try dsimp only at hSw); go_simp; (try (with_reducible rfl)))
      try simp only [Act.put, List.setIfInBounds_toArray, List.set_cons_zero, List.set_cons_succ]
      refine wpAnyH_done (by kernel_rfl) ?_ _
      go_wp2_with fail
      go_ret2
      unfold RetFa
      rw [HRE.out]
      refine ⟨Av, _, cv, by rw [HV.out]; rfl, fun _ => ⟨rfl, own_below (own_base HROW.out HB0.out.size) (Below.refl _ _).drew⟩, HE.out.drew⟩
    | succ g2 =>
      have hlt : k < q.length := by omega
      have hlt' : (k : Int) < (q.length : Int) := by omega
      have hp' : (0 : Int) < (q.length : Int) := by omega
      obtain ⟨r, hr⟩ : ∃ r, q[k]? = some r := ⟨_, List.getElem?_eq_getElem hlt⟩
      obtain ⟨r0, hr0⟩ : ∃ r0, q[0]? = some r0 := ⟨_, List.getElem?_eq_getElem (by omega)⟩
      have hhd : (q.headD []).length = r0.length := by
        cases q with
        | nil => cases hr0
        | cons a b => cases hr0; rfl
      have hxl := hqr r (List.mem_of_getElem? hr)
      obtain ⟨u, g5, o5, hu5, hA5, c5, hu⟩ := (HT.out.below HE.out).row hr
      subst hA5
      obtain ⟨Ax, cx, rfl, -⟩ := hu.form
      obtain ⟨u0, g6, o6, hu6, hA6, c6, hu0⟩ := (HT.out.below HE.out).row hr0
      cases hA6
      obtain ⟨Ay, cy, rfl, -⟩ := hu0.form
      rw [Nat.add_zero] at c6
      have HS1 := Lib.hid (HS.out r _ wr HE.out hu hxl)
      have HU := Lib.hid hu
      have HNO : Hid (¬ (SetOk s l r ∧ r.length = r0.length) → ¬ FamP s l q) := fun h => fam_no hr0 hr h
      have HRS := Lib.hid (rosT_succ hr)
      have HNX : Hid (SetOk s l r ∧ r.length = r0.length → ∀ (j : Nat) r', j < k + 1 → q[j]? = some r' → SetOk s l r' ∧ r'.length = (q.headD []).length) := fun h j r' hj hr' => by
        by_cases e : j = k
        · subst e; rw [hr] at hr'; cases hr'; rw [hhd]; exact h
        · exact hall.out j r' (by omega) hr'
      clear hhd hr hr0 hu hu0 hu5 hu6 hall hrow hvb hB
      by_cases hlen : r.length = r0.length
      · have hq1 : (((r.length : Nat) : Int) != ((r0.length : Nat) : Int)) = false := by rw [bne_eq_false_iff_eq]; omega
        by_cases hso : SetOk s l r
        · have HN := Lib.hid (HNX.out ⟨hso, hlen⟩)
          rw [okG_yes hso] at HS1
          have HB1 := Lib.hid (fun (W : World) (hW : Below wr.heap.size wr W) => HBO.out r _ W (HU.out.below hW) hxl hso)
          clear hlen hso
          go_wp2_with fail
          refine HS1.out.mono ?_
          rintro e w3 ⟨rfl, b3⟩
          have HB3 := Lib.hid b3
          have HP3 := Lib.hid (HPO.out (codeL r) _ (rosT q k) w3 (HVB.out.below b3 HVB.out.lt) (own_below HROW.out b3) (by omega))
          clear p0 p1 v0 c5 c6 b3
          go_wp2_with fail
          refine (HB1.out w3 HB3.out).mono ?_
          rintro e w' ⟨rfl, rfl⟩
          go_wp2_with fail
          refine HP3.out.mono ?_
          rintro e w4 ⟨z, v4, rfl, hb4, hr4, b4⟩
          have HR4 : Hid (w4.ownsRow wg.heap.size 64 1 v4 (rosT q (k + 1)).length (cellsU (rosT q (k + 1)))) := by show World.ownsRow _ _ _ _ _ _ _; rw [HRS.out]; exact hr4
          have HB4 := Lib.hid hb4
          have HE4 := Lib.hid ((btrans HB.out HB3.out).trans b4)
          clear hr4 hb4 b4
          go_wp2_with fail
          go_roundg g2
          case measure => omega
          case rel => exact ⟨k + 1, v4, by omega, by go_num, HN, HB4.out, HR4.out, HE4.out⟩
        · have HF := Lib.hid (HNO.out fun h => hso h.1)
          rw [okG_no hso] at HS1
          clear hlen hso
          go_wp2_with fail
          refine HS1.out.mono ?_
          rintro e w3 ⟨rfl, b3⟩
          have e3 := btrans HE.out b3
          clear p0 p1 v0 c5 c6 b3
          go_wp2_with fail
          go_ret2
          exact RetFa.no HF.out e3
      · have HF := Lib.hid (HNO.out fun h => hlen h.2)
        have hq1 : (((r.length : Nat) : Int) != ((r0.length : Nat) : Int)) = true := by rw [bne_iff_ne]; omega
        have hq2 : (((r.length : Nat) : Int) == ((r0.length : Nat) : Int)) = false := by rw [beq_eq_false_iff_ne]; omega
        have hq3 : (r.length == r0.length) = false := by rw [beq_eq_false_iff_ne]; exact hlen
        clear hlen
        go_wp2_with fail
        go_ret2
        exact RetFa.no HF.out HE.out
set_option maxHeartbeats 2000000 in
set_option maxRecDepth 100000 in
theorem ifClo_any (n a b1 : Nat) (all : Bool) (vc vs : Value) (L : List Nat) (l : List Ed) (w : World) (h1 : Blk w b1 74 #[vc, .func (.func (ruleF all)) #[] #[], vs]) (hE : Env w) (hc : Nums w vc (clos l n)) (hs : Nums w vs L) (hL : ∀ c ∈ L, c < 2 ^ n) (hLl : L.length ≤ 1048576) (hg : P2.Good (n : Int) l) (hn : n ≤ 8) (ha : a < 2 ^ n) :
    Calls Tryd.prog 69 #[.int .u64 (a : Int), .pointer (some ⟨b1, 0, none⟩)] w fun e w' => e = .returned (.bool (!holdB n l all L a)) ∧ Below w.heap.size w w' := by
  obtain ⟨p0, p1, p2⟩ := blkW h1
  have HI := Lib.hid (holds_any n a all vc vs L l w hE hc hs hL hLl hg hn ha)
  unfold watV at HI
  clear hE hc hs hL hg h1
  go_enter Tryd.func69, Tryd.ntmps69
  go_wp2_with fail
  refine HI.out.mono ?_
  rintro e w1 ⟨rfl, b1⟩
  go_wp2_with fail
  go_ret
  exact ⟨rfl, b1⟩
set_option maxHeartbeats 4000000 in
set_option maxRecDepth 100000 in
theorem implIf_any (s : Int) (all : Bool) (v : Value) (A2 : Option Addr) (c2 : Nat) (us : List Value) (q : List (List Int)) (l : List Ed) (w : World) (hE : Env w) (h : Edges w v l) (hl : l.length ≤ 1048576) (ht : ReadsG w (.slice A2 q.length c2) us q) (hql : q.length ≤ 1048576) (hqr : ∀ r ∈ q, r.length ≤ 1048576) :
    Calls Tryd.prog 31 #[.agg #[.int .i64 s, v], .slice A2 q.length c2, .bool all] w fun e w' => e = .returned (.tuple #[.bool (okG (EtP s l all q)), .bool (okG (P2.Good s l))]) ∧ Below w.heap.size w w' := by
  have hmf : ∀ (fn : Fn) (first cap : Array Value) (w : World), (Instr.makeFunc fn first cap).run Tryd.prog w = .ok (.func fn first cap) w := fun _ _ _ _ => rfl
  obtain ⟨A, c, rfl, -⟩ := h.form
  have H := Lib.hid h
  have HEN := Lib.hid hE
  have b0 : Below w.heap.size w (w.alloc (.cells #[.int .i64 s, .slice A l.length c] 29)) := (Below.refl _ _).alloc (Nat.le_refl _) _
  have HG0 := Lib.hid (Blk.new w 29 #[.int .i64 s, .slice A l.length c])
  obtain ⟨p0, p1, -, -⟩ := HG0.out.two
  have HC := Lib.hid (familyOf_any s (.slice A l.length c) A2 c2 us q l _ (h.below b0) hl (ht.below b0) hql hqr)
  have HB0 := Lib.hid b0
  clear h b0 ht hE
  by_cases hok : FamP s l q
  · have h0 := hok.1.1
    have h8 := hok.1.2.1
    obtain ⟨n, rfl⟩ : ∃ n : Nat, s = (n : Int) := ⟨s.toNat, by omega⟩
    have hn : n ≤ 8 := by omega
    have HOK := Lib.hid hok
    have HV := Lib.hid (et_all (all := all) hok)
    have HVG : Hid (okG (P2.Good (n : Int) l) = true) := okG_yes hok.1
    have HL2 : Hid (∀ c ∈ rosT q q.length, c < 2 ^ n) := fun c hc => by
      obtain ⟨xs, hx, rfl⟩ := List.mem_map.1 (ros_map.1 hc)
      exact code_set (hok.2.2 xs hx).1
    have hrl := rosT_len q (k := q.length) (Nat.le_refl _)
    have HCB := Lib.hid (fun (W : World) (hW : Below w.heap.size w W) => closedBits_any n (.slice A l.length c) l W (H.out.below hW) hl hok.1 hn)
    have HRU := Lib.hid (fun (W : World) => ruleOf_any all W)
    have HGD := Lib.hid hok.1
    clear hok
    go_enter Tryd.func31, Tryd.ntmps31
    go_wp2_with fail
    refine HC.out.mono ?_
    rintro e w1 ⟨A4, N, c4, rfl, ho4, b1⟩
    rw [okG_yes HOK.out]
    obtain ⟨rfl, ho4⟩ := ho4 HOK.out
    have HE1 := Lib.hid (btrans HB0.out b1)
    have HO1 := Lib.hid ho4
    have HG1 := Lib.hid (HG0.out.below b1 HG0.out.lt)
    clear p0 p1 b1 ho4
    obtain ⟨p0, p1, -, -⟩ := HG1.out.two
    go_wp2_with fail
    refine (HCB.out w1 HE1.out).mono ?_
    rintro e w2 ⟨A3, c3, rfl, i3, b2⟩
    have HE2 := Lib.hid (btrans HE1.out b2)
    have HO2 := Lib.hid (own_below HO1.out b2)
    have HC2 := Lib.hid i3
    clear p0 p1 b2 i3
    go_wp2_with fail
    refine (HRU.out w2).mono ?_
    rintro e w' ⟨rfl, rfl⟩
    obtain ⟨W2, hW2⟩ : ∃ W2, W2 = w2.alloc (.cells #[.slice A3 (clos l n).length c3, .func (.func (ruleF all)) #[] #[], .slice A4 (rosT q q.length).length c4] 74) := ⟨_, rfl⟩
    have d2 : Below w2.heap.size w2 W2 := by rw [hW2]; exact (Below.refl _ _).alloc (Nat.le_refl _) _
    have HE3 := Lib.hid (btrans HE2.out d2)
    have HK3 : Hid (Blk W2 w2.heap.size 74 #[.slice A3 (clos l n).length c3, .func (.func (ruleF all)) #[] #[], .slice A4 (rosT q q.length).length c4]) := by show Blk _ _ _ _; rw [hW2]; exact Blk.new _ _ _
    have HN3 : Hid (Nums W2 (.slice A4 (rosT q q.length).length c4) (rosT q q.length)) := (show Nums w2 _ _ from Reads.of_own HO2.out).below d2
    have HC3 : Hid (Nums W2 (.slice A3 (clos l n).length c3) (clos l n)) := HC2.out.below d2
    have HCF := Lib.hid (containsFuncU_any (.slice A4 (rosT q q.length).length c4) (rosT q q.length) 69 #[.pointer (some ⟨w2.heap.size, 0, none⟩)] (fun a => !holdB n l all (rosT q q.length) a) W2 HN3.out (by omega)
      { enter := fun _ _ => by kernel_rfl
        call := fun W hW a ha => ifClo_any n a w2.heap.size all _ _ (rosT q q.length) l W (HK3.out.below hW HK3.out.lt) (HEN.out.next (btrans HE3.out hW)) (HC3.out.below hW) (HN3.out.below hW) HL2.out (by omega) HGD.out hn (HL2.out a ha) })
    have HW2 := Lib.hid hW2
    clear hW2 d2
    generalize ((rosT q q.length).any fun a => !holdB n l all (rosT q q.length) a) = rv at *
    go_wp2_with fail
    rw [← HW2.out]
    refine HCF.out.mono ?_
    rintro e w4 ⟨rfl, b4⟩
    go_wp2_with fail
    go_ret2
    rw [HV.out, HVG.out]
    exact ⟨rfl, btrans HE3.out b4⟩
  · have HNO := Lib.hid hok
    have HV : Hid (okG (EtP s l all q) = false) := okG_no fun h => hok h.1
    have HN := Lib.hid (fun (W : World) (hW : Below w.heap.size w W) => implIsGraph_any s (.slice A l.length c) l W (H.out.below hW) hl)
    have HGV : Hid (goodB s l = okG (P2.Good s l)) := by
      show _ = _
      by_cases hg : P2.Good s l
      · rw [goodB_yes hg, okG_yes hg]
      · rw [goodB_no hg, okG_no hg]
    rw [HGV.out] at HN
    clear hok HGV
    go_enter Tryd.func31, Tryd.ntmps31
    go_wp2_with fail
    refine HC.out.mono ?_
    rintro e w1 ⟨A4, N, c4, rfl, -, b1⟩
    rw [okG_no HNO.out]
    have HE1 := Lib.hid (btrans HB0.out b1)
    have HG1 := Lib.hid (HG0.out.below b1 HG0.out.lt)
    clear p0 p1 b1
    obtain ⟨p0, p1, -, -⟩ := HG1.out.two
    go_wp2_with fail
    refine (HN.out w1 HE1.out).mono ?_
    rintro e w2 ⟨rfl, b2⟩
    go_wp2_with fail
    go_ret2
    rw [HV.out]
    exact ⟨rfl, btrans HE1.out b2⟩
end Go.Proofs.YthpodbhiopnnbaaDoor.ups

/- Guards: the contracts of the model's l10Eternal, l10Holds and IsEternalFamily. -/
namespace Go.Proofs.YthpodbhiopnnbaaDoor.ups
open Go.RowKit P2 words edges ints owns good adjs fns sets rets covs bags balls bitsI func lists times apps gridr grid
set_option linter.unusedVariables false

set_option maxHeartbeats 8000000 in
set_option maxRecDepth 100000 in
theorem l10Eternal_any (n x a : Nat) (all : Bool) (v t u : Value) (us : List Value) (L : List Nat) (l : List Ed) (w : World) (h : Edges w v l) (hl : l.length ≤ 1048576) (ht : ReadsG w t us (rowN L)) (hu : Ints w u (ndN a)) (hL : ∀ c ∈ L, c < 2 ^ n ∧ onesN c = onesN a) (hLl : L.length ≤ 1048576) (hg : P2.Good (n : Int) l) (hn : n ≤ 8) (ha : a < 2 ^ n) :
    Calls Tryd.prog 96 #[.agg #[.int .i64 (n : Int), v], t, u, .int .i64 (x : Int), .bool all] w fun e w' => e = .returned (.bool (L.any (ansB l all x a))) ∧ Below w.heap.size w w' := by
  obtain ⟨A, c, rfl, -⟩ := h.form
  obtain ⟨At, ct, rfl, -⟩ := ht.1
  obtain ⟨Aa, ca, rfl, -⟩ := hu.form
  have H := Lib.hid h
  have HT := Lib.hid ht
  have HU := Lib.hid hu
  have HRL := Lib.hid (rowN_len L)
  have HHS := Lib.hid (fun (b : Nat) (hb : b < 256) (u : Value) (W : World) (hu : Ints W u (ndN b)) => (by have h_ := l1Has_any u (ndN b) (x : Int) W hu (by have := nw_len (bitB b) 8; unfold ndN; omega); rw [has_nd hb] at h_; exact h_ : Calls Tryd.prog 45 #[u, .int .i64 (x : Int)] W fun e w' => e = .returned (.bool (b.testBit x)) ∧ W = w'))
  have HMV := Lib.hid (fun (b : Nat) (hb : b ∈ L) (ub : Value) (W : World) (hW : Below w.heap.size w W) (hub : Ints W ub (ndN b)) => l10Moves_any n a b all (.slice A l.length c) (.slice Aa (ndN a).length ca) ub l W (H.out.below hW) hl (HU.out.below hW) hub hg hn ha (hL b hb).1 (hL b hb).2.symm)
  have HB8 : Hid (∀ b ∈ L, b < 256) := fun b hb => Nat.lt_of_lt_of_le (hL b hb).1 (pow_le hn)
  have HB0 : Hid (Below w.heap.size w (w.alloc (.cells #[.int .i64 (n : Int), .slice A l.length c] 29))) := (Below.refl _ _).alloc (Nat.le_refl _) _
  have HG0 := Lib.hid (Blk.new w 29 #[.int .i64 (n : Int), .slice A l.length c])
  have HNO : Hid ((∀ (j b : Nat), j < L.length → L[j]? = some b → ansB l all x a b = false) → L.any (ansB l all x a) = false) := fun h => by
    rw [List.any_eq_false]
    intro b hb
    obtain ⟨j, hj⟩ := List.getElem?_of_mem hb
    rw [h j b (List.getElem?_eq_some_iff.1 hj).1 hj]; decide
  have HYE : Hid (∀ (j b : Nat), L[j]? = some b → ansB l all x a b = true → L.any (ansB l all x a) = true) := fun j b h1 h2 => List.any_eq_true.2 ⟨b, List.mem_of_getElem? h1, h2⟩
  have HK0 : Hid (∀ (j b : Nat), j < 0 → L[j]? = some b → ansB l all x a b = false) := fun j b hj => absurd hj (Nat.not_lt_zero _)
  obtain ⟨rv, hrv⟩ : ∃ rv : Bool, rv = L.any (ansB l all x a) := ⟨_, rfl⟩
  rw [← hrv] at HNO HYE ⊢
  clear h ht hu hg hL hrv
  go_enter Tryd.func96, Tryd.ntmps96
  go_wp2_with fail
  go_loopg [11] L.length (fun g iv wr => ∃ i : Nat, i + g = L.length ∧ iv = .int .i64 (i : Int) ∧ Hid (∀ (j b : Nat), j < i → L[j]? = some b → ansB l all x a b = false) ∧ Blk wr w.heap.size 29 #[.int .i64 (n : Int), .slice A l.length c] ∧ Below w.heap.size w wr)
  case atStart => exact ⟨0, by omega, rfl, HK0, HG0.out, HB0.out⟩
  case round =>
    clear HK0 HG0 HB0
    obtain ⟨i, hig, rfl, hbef, hgb, hB⟩ := hrel
    obtain ⟨p0, p1, -, -⟩ := hgb.two
    have HB := Lib.hid hB
    have HG := Lib.hid hgb
    cases gk with
    | zero =>
      obtain rfl : i = L.length := by omega
      have hnl : ¬ ((L.length : Int) < ((rowN L).length : Int)) := by rw [HRL.out]; omega
      have HR := Lib.hid (HNO.out hbef.out)
      clear hgb hB
      go_wp2_with fail
      go_ret
      rw [HR.out]
      exact ⟨rfl, HB.out⟩
    | succ g2 =>
      have hlt : i < L.length := by omega
      have hlt' : (i : Int) < ((rowN L).length : Int) := by rw [HRL.out]; omega
      obtain ⟨b, hb⟩ : ∃ b, L[i]? = some b := ⟨_, List.getElem?_eq_getElem hlt⟩
      have hbm := List.mem_of_getElem? hb
      obtain ⟨ub, g6, o6, hu6, hA6, cb5, hub⟩ := (HT.out.below hB).row (rowN_at hb)
      subst hA6
      obtain ⟨Ab, cb, rfl, -⟩ := hub.form
      have HUB := Lib.hid hub
      have HH := Lib.hid (HHS.out b (HB8.out b hbm) (.slice Ab (ndN b).length cb) wr.drew (hub.below (Below.refl _ _).drew))
      have HNX : Hid (ansB l all x a b = false → ∀ (j b' : Nat), j < i + 1 → L[j]? = some b' → ansB l all x a b' = false) := fun h j b' hj hb' => by
        by_cases e : j = i
        · subst e; rw [hb] at hb'; cases hb'; exact h
        · exact hbef.out j b' (by omega) hb'
      have HYX : Hid (ansB l all x a b = true → rv = true) := HYE.out i b hb
      cases hbt : b.testBit x with
      | false =>
        have HN := Lib.hid (HNX.out (by unfold ansB; rw [hbt]; rfl))
        rw [hbt] at HH
        clear hbt hb hbm hub hu6 hgb hB hbef
        go_wp2_with fail
        refine wp_region_held_drew (S := (fun w' : World => w'.cell? ⟨w.heap.size, 0, none⟩ = some (.int .i64 (n : Int)) ∧ w'.cell? ⟨w.heap.size, 1, none⟩ = some (.slice A l.length c) ∧ w'.cell? ⟨g6, o6 + i, none⟩ = some (.slice Ab (ndN b).length cb))) (by kernel_rfl) (by (try dsimp only); simp [*]) (fun hHeld => ?_)
        change wpAnyH _ _ _ _ _ _ #[false, false, false, false, false, false, false, false, false, false, false, false, false, false, false, false] _ _
        refine wpAnyH_take (i := 0) (oi := ⟨some 18, _, _, _, _, _⟩) (v := ?_) rfl (by kernel_rfl) (by kernel_rfl) (by kernel_rfl) (fun _ _ _ h => h) (Or.inl ⟨by rfl, ?_⟩) (by assumption) ?_
        rotate_left
        · (intro w hSw; (try dsimp only at hSw); go_simp; (try (with_reducible rfl)))
        try simp only [Act.put, List.setIfInBounds_toArray, List.set_cons_zero, List.set_cons_succ]
        refine wpAnyH_take (i := 1) (oi := ⟨some 19, _, _, _, _, _⟩) (v := ?_) rfl (by kernel_rfl) (by kernel_rfl) (by kernel_rfl) (fun _ _ _ h => h) (Or.inl ⟨by rfl, ?_⟩) (by assumption) ?_
        rotate_left
        · (intro w hSw; (try dsimp only at hSw); go_simp; (try (with_reducible rfl)))
        try simp only [Act.put, List.setIfInBounds_toArray, List.set_cons_zero, List.set_cons_succ]
        refine wpAnyH_take (i := 2) (oi := ⟨some 20, _, _, _, _, _⟩) (v := ?_) rfl (by kernel_rfl) (by kernel_rfl) (by kernel_rfl) (fun _ _ _ h => h) (Or.inl ⟨by rfl, ?_⟩) (by assumption) ?_
        rotate_left
        · (intro w hSw; (try dsimp only at hSw); go_simp; (try (with_reducible rfl)))
        try simp only [Act.put, List.setIfInBounds_toArray, List.set_cons_zero, List.set_cons_succ]
        refine wpAnyH_take (i := 3) (oi := ⟨some 21, _, _, _, _, _⟩) (v := ?_) rfl (by kernel_rfl) (by kernel_rfl) (by kernel_rfl) (fun _ _ _ h => h) (Or.inl ⟨by rfl, ?_⟩) (by assumption) ?_
        rotate_left
        · (intro w hSw; (try dsimp only at hSw); go_simp; (try (with_reducible rfl)))
        try simp only [Act.put, List.setIfInBounds_toArray, List.set_cons_zero, List.set_cons_succ]
        refine wpAnyH_take (i := 4) (oi := ⟨some 22, _, _, _, _, _⟩) (v := ?_) rfl (by kernel_rfl) (by kernel_rfl) (by kernel_rfl) (fun _ _ _ h => h) (Or.inl ⟨by rfl, ?_⟩) (by assumption) ?_
        rotate_left
        · (intro w hSw; (try dsimp only at hSw); go_simp; (try (with_reducible rfl)))
        try simp only [Act.put, List.setIfInBounds_toArray, List.set_cons_zero, List.set_cons_succ]
        refine wpAnyH_ready (rs := [5]) (by kernel_rfl) (by simp) ?_
        refine AllReadyH.cons (o := ⟨some 23, _, _, _, _, _⟩) rfl (fun K hK => ?_) AllReadyH.nil
        go_simp
        (with_reducible refine HH.out.mono ?_); rintro e w4 ⟨rfl, rfl⟩; obtain ⟨k0, k1, -, -⟩ := (HG.out.drewN 1).two
        go_wp2_with fail
        refine hK.out _ _ (by (try dsimp only); simp [*]) (fun hHeld => ?_)
        clear hK K
        try simp only [List.setIfInBounds_toArray, List.set_cons_zero, List.set_cons_succ]
        refine wpAnyH_take (i := 6) (oi := ⟨some 24, _, _, _, _, _⟩) (v := ?_) rfl (by kernel_rfl) (by kernel_rfl) (by kernel_rfl) (fun _ _ _ h => h) (Or.inl ⟨by rfl, ?_⟩) (by assumption) ?_
        rotate_left
        · (intro w hSw; (try dsimp only at hSw); go_simp; (try (with_reducible rfl)))
        try simp only [Act.put, List.setIfInBounds_toArray, List.set_cons_zero, List.set_cons_succ]
        refine wpAnyH_take (i := 7) (oi := ⟨some 25, _, _, _, _, _⟩) (v := undef) rfl (by kernel_rfl) (by kernel_rfl) (by kernel_rfl) (fun _ _ _ h => h) (Or.inr ⟨by rfl, rfl⟩) (by assumption) ?_
        try simp only [Act.put, List.setIfInBounds_toArray, List.set_cons_zero, List.set_cons_succ]
        refine wpAnyH_take (i := 8) (oi := ⟨some 26, _, _, _, _, _⟩) (v := undef) rfl (by kernel_rfl) (by kernel_rfl) (by kernel_rfl) (fun _ _ _ h => h) (Or.inr ⟨by rfl, rfl⟩) (by assumption) ?_
        try simp only [Act.put, List.setIfInBounds_toArray, List.set_cons_zero, List.set_cons_succ]
        refine wpAnyH_take (i := 9) (oi := ⟨some 27, _, _, _, _, _⟩) (v := undef) rfl (by kernel_rfl) (by kernel_rfl) (by kernel_rfl) (fun _ _ _ h => h) (Or.inr ⟨by rfl, rfl⟩) (by assumption) ?_
        try simp only [Act.put, List.setIfInBounds_toArray, List.set_cons_zero, List.set_cons_succ]
        refine wpAnyH_take (i := 10) (oi := ⟨some 28, _, _, _, _, _⟩) (v := undef) rfl (by kernel_rfl) (by kernel_rfl) (by kernel_rfl) (fun _ _ _ h => h) (Or.inr ⟨by rfl, rfl⟩) (by assumption) ?_
        try simp only [Act.put, List.setIfInBounds_toArray, List.set_cons_zero, List.set_cons_succ]
        refine wpAnyH_take (i := 11) (oi := ⟨some 29, _, _, _, _, _⟩) (v := undef) rfl (by kernel_rfl) (by kernel_rfl) (by kernel_rfl) (fun _ _ _ h => h) (Or.inr ⟨by rfl, rfl⟩) (by assumption) ?_
        try simp only [Act.put, List.setIfInBounds_toArray, List.set_cons_zero, List.set_cons_succ]
        refine wpAnyH_take (i := 12) (oi := ⟨some 30, _, _, _, _, _⟩) (v := undef) rfl (by kernel_rfl) (by kernel_rfl) (by kernel_rfl) (fun _ _ _ h => h) (Or.inr ⟨by rfl, rfl⟩) (by assumption) ?_
        try simp only [Act.put, List.setIfInBounds_toArray, List.set_cons_zero, List.set_cons_succ]
        refine wpAnyH_take (i := 13) (oi := ⟨some 31, _, _, _, _, _⟩) (v := undef) rfl (by kernel_rfl) (by kernel_rfl) (by kernel_rfl) (fun _ _ _ h => h) (Or.inr ⟨by rfl, rfl⟩) (by assumption) ?_
        try simp only [Act.put, List.setIfInBounds_toArray, List.set_cons_zero, List.set_cons_succ]
        refine wpAnyH_take (i := 14) (oi := ⟨some 32, _, _, _, _, _⟩) (v := undef) rfl (by kernel_rfl) (by kernel_rfl) (by kernel_rfl) (fun _ _ _ h => h) (Or.inr ⟨by rfl, rfl⟩) (by assumption) ?_
        try simp only [Act.put, List.setIfInBounds_toArray, List.set_cons_zero, List.set_cons_succ]
        refine wpAnyH_take (i := 15) (oi := ⟨some 33, _, _, _, _, _⟩) (v := ?_) rfl (by kernel_rfl) (by kernel_rfl) (by kernel_rfl) (fun _ _ _ h => h) (Or.inl ⟨by rfl, ?_⟩) (by assumption) ?_
        rotate_left
        · (intro w hSw; (try dsimp only at hSw); go_simp; (try (with_reducible rfl)))
        try simp only [Act.put, List.setIfInBounds_toArray, List.set_cons_zero, List.set_cons_succ]
        refine wpAnyH_done (by kernel_rfl) ?_ _
        have HG4 := Lib.hid (HG.out.drewN 1)
        have HB4 := Lib.hid HB.out.drew
        clear p0 p1 k0 k1 hHeld cb5
        go_wp2_with fail
        go_roundg g2
        case measure => omega
        case rel => exact ⟨i + 1, by omega, by go_num, HN, HG4.out, HB4.out⟩
      | true =>
        have HM1 := Lib.hid (fun (W : World) (hW : Below wr.heap.size wr W) => HMV.out b hbm (.slice Ab (ndN b).length cb) W (btrans HB.out hW) (HUB.out.below hW))
        rw [hbt] at HH
        cases hmv : mvB l all a b with
        | false =>
          have HN := Lib.hid (HNX.out (by unfold ansB; rw [hbt, hmv]; rfl))
          rw [hmv] at HM1
          clear hbt hb hbm hub hu6 hgb hB hmv hbef
          go_wp2_with fail
          refine wp_region_held_drew (S := (fun w' : World => w'.cell? ⟨w.heap.size, 0, none⟩ = some (.int .i64 (n : Int)) ∧ w'.cell? ⟨w.heap.size, 1, none⟩ = some (.slice A l.length c) ∧ w'.cell? ⟨g6, o6 + i, none⟩ = some (.slice Ab (ndN b).length cb))) (by kernel_rfl) (by (try dsimp only); simp [*]) (fun hHeld => ?_)
          change wpAnyH _ _ _ _ _ _ #[false, false, false, false, false, false, false, false, false, false, false, false, false, false, false, false] _ _
          refine wpAnyH_take (i := 0) (oi := ⟨some 18, _, _, _, _, _⟩) (v := ?_) rfl (by kernel_rfl) (by kernel_rfl) (by kernel_rfl) (fun _ _ _ h => h) (Or.inl ⟨by rfl, ?_⟩) (by assumption) ?_
          rotate_left
          · (intro w hSw; (try dsimp only at hSw); go_simp; (try (with_reducible rfl)))
          try simp only [Act.put, List.setIfInBounds_toArray, List.set_cons_zero, List.set_cons_succ]
          refine wpAnyH_take (i := 1) (oi := ⟨some 19, _, _, _, _, _⟩) (v := ?_) rfl (by kernel_rfl) (by kernel_rfl) (by kernel_rfl) (fun _ _ _ h => h) (Or.inl ⟨by rfl, ?_⟩) (by assumption) ?_
          rotate_left
          · (intro w hSw; (try dsimp only at hSw); go_simp; (try (with_reducible rfl)))
          try simp only [Act.put, List.setIfInBounds_toArray, List.set_cons_zero, List.set_cons_succ]
          refine wpAnyH_take (i := 2) (oi := ⟨some 20, _, _, _, _, _⟩) (v := ?_) rfl (by kernel_rfl) (by kernel_rfl) (by kernel_rfl) (fun _ _ _ h => h) (Or.inl ⟨by rfl, ?_⟩) (by assumption) ?_
          rotate_left
          · (intro w hSw; (try dsimp only at hSw); go_simp; (try (with_reducible rfl)))
          try simp only [Act.put, List.setIfInBounds_toArray, List.set_cons_zero, List.set_cons_succ]
          refine wpAnyH_take (i := 3) (oi := ⟨some 21, _, _, _, _, _⟩) (v := ?_) rfl (by kernel_rfl) (by kernel_rfl) (by kernel_rfl) (fun _ _ _ h => h) (Or.inl ⟨by rfl, ?_⟩) (by assumption) ?_
          rotate_left
          · (intro w hSw; (try dsimp only at hSw); go_simp; (try (with_reducible rfl)))
          try simp only [Act.put, List.setIfInBounds_toArray, List.set_cons_zero, List.set_cons_succ]
          refine wpAnyH_take (i := 4) (oi := ⟨some 22, _, _, _, _, _⟩) (v := ?_) rfl (by kernel_rfl) (by kernel_rfl) (by kernel_rfl) (fun _ _ _ h => h) (Or.inl ⟨by rfl, ?_⟩) (by assumption) ?_
          rotate_left
          · (intro w hSw; (try dsimp only at hSw); go_simp; (try (with_reducible rfl)))
          try simp only [Act.put, List.setIfInBounds_toArray, List.set_cons_zero, List.set_cons_succ]
          refine wpAnyH_ready (rs := [5]) (by kernel_rfl) (by simp) ?_
          refine AllReadyH.cons (o := ⟨some 23, _, _, _, _, _⟩) rfl (fun K hK => ?_) AllReadyH.nil
          go_simp
          (with_reducible refine HH.out.mono ?_); rintro e w4 ⟨rfl, rfl⟩; obtain ⟨k0, k1, -, -⟩ := (HG.out.drewN 1).two
          go_wp2_with fail
          refine hK.out _ _ (by (try dsimp only); simp [*]) (fun hHeld => ?_)
          clear hK K
          try simp only [List.setIfInBounds_toArray, List.set_cons_zero, List.set_cons_succ]
          refine wpAnyH_take (i := 6) (oi := ⟨some 24, _, _, _, _, _⟩) (v := ?_) rfl (by kernel_rfl) (by kernel_rfl) (by kernel_rfl) (fun _ _ _ h => h) (Or.inl ⟨by rfl, ?_⟩) (by assumption) ?_
          rotate_left
          · (intro w hSw; (try dsimp only at hSw); go_simp; (try (with_reducible rfl)))
          try simp only [Act.put, List.setIfInBounds_toArray, List.set_cons_zero, List.set_cons_succ]
          refine wpAnyH_take (i := 7) (oi := ⟨some 25, _, _, _, _, _⟩) (v := ?_) rfl (by kernel_rfl) (by kernel_rfl) (by kernel_rfl) (fun _ _ _ h => h) (Or.inl ⟨by rfl, ?_⟩) (by assumption) ?_
          rotate_left
          · (intro w hSw; (try dsimp only at hSw); go_simp; (try (with_reducible rfl)))
          try simp only [Act.put, List.setIfInBounds_toArray, List.set_cons_zero, List.set_cons_succ]
          refine wpAnyH_take (i := 8) (oi := ⟨some 26, _, _, _, _, _⟩) (v := ?_) rfl (by kernel_rfl) (by kernel_rfl) (by kernel_rfl) (fun _ _ _ h => h) (Or.inl ⟨by rfl, ?_⟩) (by assumption) ?_
          rotate_left
          · (intro w hSw; (try dsimp only at hSw); go_simp; (try (with_reducible rfl)))
          try simp only [Act.put, List.setIfInBounds_toArray, List.set_cons_zero, List.set_cons_succ]
          refine wpAnyH_take (i := 9) (oi := ⟨some 27, _, _, _, _, _⟩) (v := ?_) rfl (by kernel_rfl) (by kernel_rfl) (by kernel_rfl) (fun _ _ _ h => h) (Or.inl ⟨by rfl, ?_⟩) (by assumption) ?_
          rotate_left
          · (intro w hSw; (try dsimp only at hSw); go_simp; (try (with_reducible rfl)))
          try simp only [Act.put, List.setIfInBounds_toArray, List.set_cons_zero, List.set_cons_succ]
          refine wpAnyH_take (i := 10) (oi := ⟨some 28, _, _, _, _, _⟩) (v := ?_) rfl (by kernel_rfl) (by kernel_rfl) (by kernel_rfl) (fun _ _ _ h => h) (Or.inl ⟨by rfl, ?_⟩) (by assumption) ?_
          rotate_left
          · (intro w hSw; (try dsimp only at hSw); go_simp; (try (with_reducible rfl)))
          try simp only [Act.put, List.setIfInBounds_toArray, List.set_cons_zero, List.set_cons_succ]
          refine wpAnyH_take (i := 11) (oi := ⟨some 29, _, _, _, _, _⟩) (v := ?_) rfl (by kernel_rfl) (by kernel_rfl) (by kernel_rfl) (fun _ _ _ h => h) (Or.inl ⟨by rfl, ?_⟩) (by assumption) ?_
          rotate_left
          · (intro w hSw; (try dsimp only at hSw); go_simp; (try (with_reducible rfl)))
          try simp only [Act.put, List.setIfInBounds_toArray, List.set_cons_zero, List.set_cons_succ]
          refine wpAnyH_take (i := 12) (oi := ⟨some 30, _, _, _, _, _⟩) (v := ?_) rfl (by kernel_rfl) (by kernel_rfl) (by kernel_rfl) (fun _ _ _ h => h) (Or.inl ⟨by rfl, ?_⟩) (by assumption) ?_
          rotate_left
          · (intro w hSw; (try dsimp only at hSw); go_simp; (try (with_reducible rfl)))
          try simp only [Act.put, List.setIfInBounds_toArray, List.set_cons_zero, List.set_cons_succ]
          refine wpAnyH_take (i := 13) (oi := ⟨some 31, _, _, _, _, _⟩) (v := ?_) rfl (by kernel_rfl) (by kernel_rfl) (by kernel_rfl) (fun _ _ _ h => h) (Or.inl ⟨by rfl, ?_⟩) (by assumption) ?_
          rotate_left
          · (intro w hSw; (try dsimp only at hSw); go_simp; (try (with_reducible rfl)))
          try simp only [Act.put, List.setIfInBounds_toArray, List.set_cons_zero, List.set_cons_succ]
          refine wpAnyH_ready (rs := [14]) (by kernel_rfl) (by simp) ?_
          refine AllReadyH.cons (o := ⟨some 32, _, _, _, _, _⟩) rfl (fun K hK => ?_) AllReadyH.nil
          go_simp
          (with_reducible refine (HM1.out wr.drew (Below.refl _ _).drew).mono ?_); rintro e w4 ⟨rfl, b4⟩; have d4 : Below wr.heap.size wr w4 := btrans (Below.refl _ _).drew b4; obtain ⟨i0_, i1_, -, -⟩ := (HG.out.below d4 HG.out.lt).two; have i2_ := nearv.cell_keep cb5 d4
          go_wp2_with fail
          refine hK.out _ _ (by (try dsimp only); simp [*]) (fun hHeld => ?_)
          clear hK K
          try simp only [List.setIfInBounds_toArray, List.set_cons_zero, List.set_cons_succ]
          refine wpAnyH_take (i := 15) (oi := ⟨some 33, _, _, _, _, _⟩) (v := ?_) rfl (by kernel_rfl) (by kernel_rfl) (by kernel_rfl) (fun _ _ _ h => h) (Or.inl ⟨by rfl, ?_⟩) (by assumption) ?_
          rotate_left
          · (intro w hSw; (try dsimp only at hSw); go_simp; (try (with_reducible rfl)))
          try simp only [Act.put, List.setIfInBounds_toArray, List.set_cons_zero, List.set_cons_succ]
          refine wpAnyH_done (by kernel_rfl) ?_ _
          have HG4 := Lib.hid (HG.out.below d4 HG.out.lt)
          have HB4 := Lib.hid (btrans HB.out d4)
          clear p0 p1 k0 k1 hHeld cb5 i0_ i1_ i2_ d4 b4
          go_wp2_with fail
          go_roundg g2
          case measure => omega
          case rel => exact ⟨i + 1, by omega, by go_num, HN, HG4.out, HB4.out⟩
        | true =>
          have HR := Lib.hid (HYX.out (by unfold ansB; rw [hbt, hmv]; rfl))
          rw [hmv] at HM1
          clear hbt hb hbm hub hu6 hgb hB hmv hbef
          go_wp2_with fail
          refine wp_region_held_drew (S := (fun w' : World => w'.cell? ⟨w.heap.size, 0, none⟩ = some (.int .i64 (n : Int)) ∧ w'.cell? ⟨w.heap.size, 1, none⟩ = some (.slice A l.length c) ∧ w'.cell? ⟨g6, o6 + i, none⟩ = some (.slice Ab (ndN b).length cb))) (by kernel_rfl) (by (try dsimp only); simp [*]) (fun hHeld => ?_)
          change wpAnyH _ _ _ _ _ _ #[false, false, false, false, false, false, false, false, false, false, false, false, false, false, false, false] _ _
          refine wpAnyH_take (i := 0) (oi := ⟨some 18, _, _, _, _, _⟩) (v := ?_) rfl (by kernel_rfl) (by kernel_rfl) (by kernel_rfl) (fun _ _ _ h => h) (Or.inl ⟨by rfl, ?_⟩) (by assumption) ?_
          rotate_left
          · (intro w hSw; (try dsimp only at hSw); go_simp; (try (with_reducible rfl)))
          try simp only [Act.put, List.setIfInBounds_toArray, List.set_cons_zero, List.set_cons_succ]
          refine wpAnyH_take (i := 1) (oi := ⟨some 19, _, _, _, _, _⟩) (v := ?_) rfl (by kernel_rfl) (by kernel_rfl) (by kernel_rfl) (fun _ _ _ h => h) (Or.inl ⟨by rfl, ?_⟩) (by assumption) ?_
          rotate_left
          · (intro w hSw; (try dsimp only at hSw); go_simp; (try (with_reducible rfl)))
          try simp only [Act.put, List.setIfInBounds_toArray, List.set_cons_zero, List.set_cons_succ]
          refine wpAnyH_take (i := 2) (oi := ⟨some 20, _, _, _, _, _⟩) (v := ?_) rfl (by kernel_rfl) (by kernel_rfl) (by kernel_rfl) (fun _ _ _ h => h) (Or.inl ⟨by rfl, ?_⟩) (by assumption) ?_
          rotate_left
          · (intro w hSw; (try dsimp only at hSw); go_simp; (try (with_reducible rfl)))
          try simp only [Act.put, List.setIfInBounds_toArray, List.set_cons_zero, List.set_cons_succ]
          refine wpAnyH_take (i := 3) (oi := ⟨some 21, _, _, _, _, _⟩) (v := ?_) rfl (by kernel_rfl) (by kernel_rfl) (by kernel_rfl) (fun _ _ _ h => h) (Or.inl ⟨by rfl, ?_⟩) (by assumption) ?_
          rotate_left
          · (intro w hSw; (try dsimp only at hSw); go_simp; (try (with_reducible rfl)))
          try simp only [Act.put, List.setIfInBounds_toArray, List.set_cons_zero, List.set_cons_succ]
          refine wpAnyH_take (i := 4) (oi := ⟨some 22, _, _, _, _, _⟩) (v := ?_) rfl (by kernel_rfl) (by kernel_rfl) (by kernel_rfl) (fun _ _ _ h => h) (Or.inl ⟨by rfl, ?_⟩) (by assumption) ?_
          rotate_left
          · (intro w hSw; (try dsimp only at hSw); go_simp; (try (with_reducible rfl)))
          try simp only [Act.put, List.setIfInBounds_toArray, List.set_cons_zero, List.set_cons_succ]
          refine wpAnyH_ready (rs := [5]) (by kernel_rfl) (by simp) ?_
          refine AllReadyH.cons (o := ⟨some 23, _, _, _, _, _⟩) rfl (fun K hK => ?_) AllReadyH.nil
          go_simp
          (with_reducible refine HH.out.mono ?_); rintro e w4 ⟨rfl, rfl⟩; obtain ⟨k0, k1, -, -⟩ := (HG.out.drewN 1).two
          go_wp2_with fail
          refine hK.out _ _ (by (try dsimp only); simp [*]) (fun hHeld => ?_)
          clear hK K
          try simp only [List.setIfInBounds_toArray, List.set_cons_zero, List.set_cons_succ]
          refine wpAnyH_take (i := 6) (oi := ⟨some 24, _, _, _, _, _⟩) (v := ?_) rfl (by kernel_rfl) (by kernel_rfl) (by kernel_rfl) (fun _ _ _ h => h) (Or.inl ⟨by rfl, ?_⟩) (by assumption) ?_
          rotate_left
          · (intro w hSw; (try dsimp only at hSw); go_simp; (try (with_reducible rfl)))
          try simp only [Act.put, List.setIfInBounds_toArray, List.set_cons_zero, List.set_cons_succ]
          refine wpAnyH_take (i := 7) (oi := ⟨some 25, _, _, _, _, _⟩) (v := ?_) rfl (by kernel_rfl) (by kernel_rfl) (by kernel_rfl) (fun _ _ _ h => h) (Or.inl ⟨by rfl, ?_⟩) (by assumption) ?_
          rotate_left
          · (intro w hSw; (try dsimp only at hSw); go_simp; (try (with_reducible rfl)))
          try simp only [Act.put, List.setIfInBounds_toArray, List.set_cons_zero, List.set_cons_succ]
          refine wpAnyH_take (i := 8) (oi := ⟨some 26, _, _, _, _, _⟩) (v := ?_) rfl (by kernel_rfl) (by kernel_rfl) (by kernel_rfl) (fun _ _ _ h => h) (Or.inl ⟨by rfl, ?_⟩) (by assumption) ?_
          rotate_left
          · (intro w hSw; (try dsimp only at hSw); go_simp; (try (with_reducible rfl)))
          try simp only [Act.put, List.setIfInBounds_toArray, List.set_cons_zero, List.set_cons_succ]
          refine wpAnyH_take (i := 9) (oi := ⟨some 27, _, _, _, _, _⟩) (v := ?_) rfl (by kernel_rfl) (by kernel_rfl) (by kernel_rfl) (fun _ _ _ h => h) (Or.inl ⟨by rfl, ?_⟩) (by assumption) ?_
          rotate_left
          · (intro w hSw; (try dsimp only at hSw); go_simp; (try (with_reducible rfl)))
          try simp only [Act.put, List.setIfInBounds_toArray, List.set_cons_zero, List.set_cons_succ]
          refine wpAnyH_take (i := 10) (oi := ⟨some 28, _, _, _, _, _⟩) (v := ?_) rfl (by kernel_rfl) (by kernel_rfl) (by kernel_rfl) (fun _ _ _ h => h) (Or.inl ⟨by rfl, ?_⟩) (by assumption) ?_
          rotate_left
          · (intro w hSw; (try dsimp only at hSw); go_simp; (try (with_reducible rfl)))
          try simp only [Act.put, List.setIfInBounds_toArray, List.set_cons_zero, List.set_cons_succ]
          refine wpAnyH_take (i := 11) (oi := ⟨some 29, _, _, _, _, _⟩) (v := ?_) rfl (by kernel_rfl) (by kernel_rfl) (by kernel_rfl) (fun _ _ _ h => h) (Or.inl ⟨by rfl, ?_⟩) (by assumption) ?_
          rotate_left
          · (intro w hSw; (try dsimp only at hSw); go_simp; (try (with_reducible rfl)))
          try simp only [Act.put, List.setIfInBounds_toArray, List.set_cons_zero, List.set_cons_succ]
          refine wpAnyH_take (i := 12) (oi := ⟨some 30, _, _, _, _, _⟩) (v := ?_) rfl (by kernel_rfl) (by kernel_rfl) (by kernel_rfl) (fun _ _ _ h => h) (Or.inl ⟨by rfl, ?_⟩) (by assumption) ?_
          rotate_left
          · (intro w hSw; (try dsimp only at hSw); go_simp; (try (with_reducible rfl)))
          try simp only [Act.put, List.setIfInBounds_toArray, List.set_cons_zero, List.set_cons_succ]
          refine wpAnyH_take (i := 13) (oi := ⟨some 31, _, _, _, _, _⟩) (v := ?_) rfl (by kernel_rfl) (by kernel_rfl) (by kernel_rfl) (fun _ _ _ h => h) (Or.inl ⟨by rfl, ?_⟩) (by assumption) ?_
          rotate_left
          · (intro w hSw; (try dsimp only at hSw); go_simp; (try (with_reducible rfl)))
          try simp only [Act.put, List.setIfInBounds_toArray, List.set_cons_zero, List.set_cons_succ]
          refine wpAnyH_ready (rs := [14]) (by kernel_rfl) (by simp) ?_
          refine AllReadyH.cons (o := ⟨some 32, _, _, _, _, _⟩) rfl (fun K hK => ?_) AllReadyH.nil
          go_simp
          (with_reducible refine (HM1.out wr.drew (Below.refl _ _).drew).mono ?_); rintro e w4 ⟨rfl, b4⟩; have d4 : Below wr.heap.size wr w4 := btrans (Below.refl _ _).drew b4; obtain ⟨i0_, i1_, -, -⟩ := (HG.out.below d4 HG.out.lt).two; have i2_ := nearv.cell_keep cb5 d4
          go_wp2_with fail
          refine hK.out _ _ (by (try dsimp only); simp [*]) (fun hHeld => ?_)
          clear hK K
          try simp only [List.setIfInBounds_toArray, List.set_cons_zero, List.set_cons_succ]
          refine wpAnyH_take (i := 15) (oi := ⟨some 33, _, _, _, _, _⟩) (v := ?_) rfl (by kernel_rfl) (by kernel_rfl) (by kernel_rfl) (fun _ _ _ h => h) (Or.inl ⟨by rfl, ?_⟩) (by assumption) ?_
          rotate_left
          · (intro w hSw; (try dsimp only at hSw); go_simp; (try (with_reducible rfl)))
          try simp only [Act.put, List.setIfInBounds_toArray, List.set_cons_zero, List.set_cons_succ]
          refine wpAnyH_done (by kernel_rfl) ?_ _
          have HB4 := Lib.hid (btrans HB.out d4)
          clear p0 p1 k0 k1 hHeld cb5 i0_ i1_ i2_ d4 b4
          go_wp2_with fail
          go_ret
          rw [HR.out]
          exact ⟨rfl, HB4.out⟩
/-- an attack is answered within the family -/
def attB (l : List Ed) (all : Bool) (L : List Nat) (a x : Nat) : Bool := a.testBit x || L.any (ansB l all x a)
theorem hold_yes {n : Nat} {l : List Ed} {all : Bool} {L : List Nat} {a : Nat} (h : ∀ x, x < n → attB l all L a x = true) : holdB n l all L a = true := by
  unfold holdB
  rw [List.all_eq_true]
  intro x hx
  exact h x (List.mem_range.1 hx)
theorem hold_no {n x : Nat} {l : List Ed} {all : Bool} {L : List Nat} {a : Nat} (hx : x < n) (h : attB l all L a x = false) : holdB n l all L a = false := by
  unfold holdB
  rw [List.all_eq_false]
  refine ⟨x, List.mem_range.2 hx, ?_⟩
  unfold attB at h
  rw [h]; decide
theorem row_code {n : Nat} {l : List Ed} {q : List (List Int)} (hn : n ≤ 8) (h : ∀ r ∈ q, SetOk (n : Int) l r) : rowN (q.map codeL) = q := by
  unfold rowN
  rw [List.map_map]
  have : ∀ r ∈ q, (ndN ∘ codeL) r = r := fun r hr => (set_nd hn (h r hr)).symm
  rw [List.map_congr_left this, List.map_id'']
  intro r; rfl
set_option maxHeartbeats 16000000 in
set_option maxRecDepth 100000 in
theorem l10Holds_any (n : Nat) (all : Bool) (v : Value) (A2 : Option Addr) (c2 : Nat) (us : List Value) (q : List (List Int)) (l : List Ed) (w : World) (h : Edges w v l) (hl : l.length ≤ 1048576) (ht : ReadsG w (.slice A2 q.length c2) us q) (hql : q.length ≤ 1048576) (hqr : ∀ r ∈ q, r.length ≤ 1048576) (hg : P2.Good (n : Int) l) (hn : n ≤ 8) :
    Calls Tryd.prog 65 #[.agg #[.int .i64 (n : Int), v], .slice A2 q.length c2, .bool all] w fun e w' => e = .returned (.bool (okG (EtP (n : Int) l all q))) ∧ Below w.heap.size w w' := by
  obtain ⟨A, c, rfl, -⟩ := h.form
  have H := Lib.hid h
  have HT := Lib.hid ht
  have HB0 : Hid (Below w.heap.size w (w.alloc (.cells #[.int .i64 (n : Int), .slice A l.length c] 29))) := (Below.refl _ _).alloc (Nat.le_refl _) _
  have HG0 := Lib.hid (Blk.new w 29 #[.int .i64 (n : Int), .slice A l.length c])
  have h0 := hg.1
  have h8 := hg.2.1
  have HST := Lib.hid (fun (xs : List Int) (u : Value) (W : World) (hu : Ints W u xs) (hx : xs.length ≤ 1048576) => l2Set_any (n : Int) (.slice A l.length c) u l xs W hu hx (by omega) (by omega))
  have HGD := Lib.hid hg
  have HA0 : Hid (∀ (j : Nat) r, j < 0 → q[j]? = some r → SetOk (n : Int) l r ∧ r.length = (q.headD []).length) := fun j r hj => absurd hj (Nat.not_lt_zero _)
  obtain ⟨rv, hrv⟩ : ∃ rv : Bool, rv = okG (EtP (n : Int) l all q) := ⟨_, rfl⟩
  have HRV := Lib.hid hrv
  have HRS := Lib.hid (fun (xs : List Int) => rises_set (xs := xs) hg)
  rw [← hrv]
  clear h ht hg hrv
  go_enter Tryd.func65, Tryd.ntmps65
  go_wp2_with fail
  go_loopg [7] q.length (fun g iv wr => ∃ i : Nat, i + g = q.length ∧ iv = .int .i64 (i : Int) ∧ Hid (∀ (j : Nat) r, j < i → q[j]? = some r → SetOk (n : Int) l r ∧ r.length = (q.headD []).length) ∧ Blk wr w.heap.size 29 #[.int .i64 (n : Int), .slice A l.length c] ∧ Below w.heap.size w wr)
  case atStart => exact ⟨0, by omega, rfl, HA0, HG0.out, HB0.out⟩
  case round =>
    clear HA0 HG0 HB0
    obtain ⟨i, hig, rfl, hall, hgb, hB⟩ := hrel
    obtain ⟨p0, p1, -, -⟩ := hgb.two
    have HB := Lib.hid hB
    have HG := Lib.hid hgb
    cases gk with
    | succ g2 =>
      have hlt : i < q.length := by omega
      have hlt' : (i : Int) < (q.length : Int) := by omega
      have hp' : (0 : Int) < (q.length : Int) := by omega
      have hp0 : 0 < q.length := by omega
      obtain ⟨r, hr⟩ : ∃ r, q[i]? = some r := ⟨_, List.getElem?_eq_getElem hlt⟩
      obtain ⟨r0, hr0⟩ : ∃ r0, q[0]? = some r0 := ⟨_, List.getElem?_eq_getElem (by omega)⟩
      have hhd : (q.headD []).length = r0.length := by
        cases q with
        | nil => cases hr0
        | cons a b => cases hr0; rfl
      have hxl := hqr r (List.mem_of_getElem? hr)
      obtain ⟨u, g5, o5, hu5, hA5, c5, hu⟩ := (HT.out.below hB).row hr
      subst hA5
      obtain ⟨Ax, cx, rfl, -⟩ := hu.form
      obtain ⟨u0, g6, o6, hu6, hA6, c6, hu0⟩ := (HT.out.below hB).row hr0
      cases hA6
      obtain ⟨Ay, cy, rfl, -⟩ := hu0.form
      rw [Nat.add_zero] at c6
      have hst := HST.out r _ wr.drew (hu.below (Below.refl _ _).drew) hxl
      have HNO : Hid (¬ (SetOk (n : Int) l r ∧ r.length = r0.length) → rv = false) := fun h => by rw [HRV.out]; exact okG_no fun h2 => fam_no hr0 hr h h2.1
      have HNX : Hid (SetOk (n : Int) l r ∧ r.length = r0.length → ∀ (j : Nat) r', j < i + 1 → q[j]? = some r' → SetOk (n : Int) l r' ∧ r'.length = (q.headD []).length) := fun h j r' hj hr' => by
        by_cases e : j = i
        · subst e; rw [hr] at hr'; cases hr'; rw [hhd]; exact h
        · exact hall.out j r' (by omega) hr'
      clear hhd hr hr0 hu hu0 hu5 hu6 hall hgb hB
      by_cases hso : SetOk (n : Int) l r
      · rw [okG_yes ((HRS.out r).2 hso)] at hst
        have HS1 := Lib.hid hst
        by_cases hlen : r.length = r0.length
        · have hq1 : (((r.length : Nat) : Int) != ((r0.length : Nat) : Int)) = false := by rw [bne_eq_false_iff_eq]; omega
          have HN := Lib.hid (HNX.out ⟨hso, hlen⟩)
          clear hlen hso hst
          go_wp2_with fail
          refine wp_region_held_drew (S := (fun w' : World => w'.cell? ⟨w.heap.size, 0, none⟩ = some (.int .i64 (n : Int)) ∧ w'.cell? ⟨w.heap.size, 1, none⟩ = some (.slice A l.length c) ∧ w'.cell? ⟨g5, o5 + i, none⟩ = some (.slice Ax r.length cx) ∧ w'.cell? ⟨g5, o5, none⟩ = some (.slice Ay r0.length cy))) (by kernel_rfl) (by (try dsimp only); simp [*]) (fun hHeld => ?_)
          change wpAnyH _ _ _ _ _ _ #[false, false, false, false, false, false, false, false, false, false, false, false, false, false, false, false, false, false, false] _ _
          refine wpAnyH_take (i := 0) (oi := ⟨some 16, _, _, _, _, _⟩) (v := ?_) rfl (by kernel_rfl) (by kernel_rfl) (by kernel_rfl) (fun _ _ _ h => h) (Or.inl ⟨by rfl, ?_⟩) (by assumption) ?_
          rotate_left
          · (intro w hSw; (try dsimp only at hSw); go_simp; (try (with_reducible rfl)))
          try simp only [Act.put, List.setIfInBounds_toArray, List.set_cons_zero, List.set_cons_succ]
          refine wpAnyH_take (i := 1) (oi := ⟨some 17, _, _, _, _, _⟩) (v := ?_) rfl (by kernel_rfl) (by kernel_rfl) (by kernel_rfl) (fun _ _ _ h => h) (Or.inl ⟨by rfl, ?_⟩) (by assumption) ?_
          rotate_left
          · (intro w hSw; (try dsimp only at hSw); go_simp; (try (with_reducible rfl)))
          try simp only [Act.put, List.setIfInBounds_toArray, List.set_cons_zero, List.set_cons_succ]
          refine wpAnyH_take (i := 2) (oi := ⟨some 18, _, _, _, _, _⟩) (v := ?_) rfl (by kernel_rfl) (by kernel_rfl) (by kernel_rfl) (fun _ _ _ h => h) (Or.inl ⟨by rfl, ?_⟩) (by assumption) ?_
          rotate_left
          · (intro w hSw; (try dsimp only at hSw); go_simp; (try (with_reducible rfl)))
          try simp only [Act.put, List.setIfInBounds_toArray, List.set_cons_zero, List.set_cons_succ]
          refine wpAnyH_take (i := 3) (oi := ⟨some 19, _, _, _, _, _⟩) (v := ?_) rfl (by kernel_rfl) (by kernel_rfl) (by kernel_rfl) (fun _ _ _ h => h) (Or.inl ⟨by rfl, ?_⟩) (by assumption) ?_
          rotate_left
          · (intro w hSw; (try dsimp only at hSw); go_simp; (try (with_reducible rfl)))
          try simp only [Act.put, List.setIfInBounds_toArray, List.set_cons_zero, List.set_cons_succ]
          refine wpAnyH_take (i := 4) (oi := ⟨some 20, _, _, _, _, _⟩) (v := ?_) rfl (by kernel_rfl) (by kernel_rfl) (by kernel_rfl) (fun _ _ _ h => h) (Or.inl ⟨by rfl, ?_⟩) (by assumption) ?_
          rotate_left
          · (intro w hSw; (try dsimp only at hSw); go_simp; (try (with_reducible rfl)))
          try simp only [Act.put, List.setIfInBounds_toArray, List.set_cons_zero, List.set_cons_succ]
          refine wpAnyH_ready (rs := [5]) (by kernel_rfl) (by simp) ?_
          refine AllReadyH.cons (o := ⟨some 21, _, _, _, _, _⟩) rfl (fun K hK => ?_) AllReadyH.nil
          go_simp
          (with_reducible refine HS1.out.mono ?_); rintro e w4 ⟨rfl, b4⟩; have d4 : Below wr.heap.size wr w4 := btrans (Below.refl _ _).drew b4; obtain ⟨k0, k1, -, -⟩ := (HG.out.below d4 HG.out.lt).two; have k2 := nearv.cell_keep c5 d4; have k3 := nearv.cell_keep c6 d4
          go_wp2_with fail
          refine hK.out _ _ (by (try dsimp only); simp [*]) (fun hHeld => ?_)
          clear hK K
          try simp only [List.setIfInBounds_toArray, List.set_cons_zero, List.set_cons_succ]
          refine wpAnyH_take (i := 6) (oi := ⟨some 22, _, _, _, _, _⟩) (v := ?_) rfl (by kernel_rfl) (by kernel_rfl) (by kernel_rfl) (fun _ _ _ h => h) (Or.inl ⟨by rfl, ?_⟩) (by assumption) ?_
          rotate_left
          · (intro w hSw; (try dsimp only at hSw); go_simp; (try (with_reducible rfl)))
          try simp only [Act.put, List.setIfInBounds_toArray, List.set_cons_zero, List.set_cons_succ]
          refine wpAnyH_take (i := 7) (oi := ⟨some 23, _, _, _, _, _⟩) (v := ?_) rfl (by kernel_rfl) (by kernel_rfl) (by kernel_rfl) (fun _ _ _ h => h) (Or.inl ⟨by rfl, ?_⟩) (by assumption) ?_
          rotate_left
          · (intro w hSw; (try dsimp only at hSw); go_simp; (try (with_reducible rfl)))
          try simp only [Act.put, List.setIfInBounds_toArray, List.set_cons_zero, List.set_cons_succ]
          refine wpAnyH_take (i := 8) (oi := ⟨some 24, _, _, _, _, _⟩) (v := ?_) rfl (by kernel_rfl) (by kernel_rfl) (by kernel_rfl) (fun _ _ _ h => h) (Or.inl ⟨by rfl, ?_⟩) (by assumption) ?_
          rotate_left
          · (intro w hSw; (try dsimp only at hSw); go_simp; (try (with_reducible rfl)))
          try simp only [Act.put, List.setIfInBounds_toArray, List.set_cons_zero, List.set_cons_succ]
          refine wpAnyH_take (i := 9) (oi := ⟨some 25, _, _, _, _, _⟩) (v := ?_) rfl (by kernel_rfl) (by kernel_rfl) (by kernel_rfl) (fun _ _ _ h => h) (Or.inl ⟨by rfl, ?_⟩) (by assumption) ?_
          rotate_left
          · (intro w hSw; (try dsimp only at hSw); go_simp; (try (with_reducible rfl)))
          try simp only [Act.put, List.setIfInBounds_toArray, List.set_cons_zero, List.set_cons_succ]
          refine wpAnyH_take (i := 10) (oi := ⟨some 26, _, _, _, _, _⟩) (v := ?_) rfl (by kernel_rfl) (by kernel_rfl) (by kernel_rfl) (fun _ _ _ h => h) (Or.inl ⟨by rfl, ?_⟩) (by assumption) ?_
          rotate_left
          · (intro w hSw; (try dsimp only at hSw); go_simp; (try (with_reducible rfl)))
          try simp only [Act.put, List.setIfInBounds_toArray, List.set_cons_zero, List.set_cons_succ]
          refine wpAnyH_take (i := 11) (oi := ⟨some 27, _, _, _, _, _⟩) (v := ?_) rfl (by kernel_rfl) (by kernel_rfl) (by kernel_rfl) (fun _ _ _ h => h) (Or.inl ⟨by rfl, ?_⟩) (by assumption) ?_
          rotate_left
          · (intro w hSw; (try dsimp only at hSw); go_simp; (try (with_reducible rfl)))
          try simp only [Act.put, List.setIfInBounds_toArray, List.set_cons_zero, List.set_cons_succ]
          refine wpAnyH_take (i := 12) (oi := ⟨some 28, _, _, _, _, _⟩) (v := ?_) rfl (by kernel_rfl) (by kernel_rfl) (by kernel_rfl) (fun _ _ _ h => h) (Or.inl ⟨by rfl, ?_⟩) (by assumption) ?_
          rotate_left
          · (intro w hSw; (try dsimp only at hSw); go_simp; (try (with_reducible rfl)))
          try simp only [Act.put, List.setIfInBounds_toArray, List.set_cons_zero, List.set_cons_succ]
          refine wpAnyH_take (i := 13) (oi := ⟨some 29, _, _, _, _, _⟩) (v := ?_) rfl (by kernel_rfl) (by kernel_rfl) (by kernel_rfl) (fun _ _ _ h => h) (Or.inl ⟨by rfl, ?_⟩) (by assumption) ?_
          rotate_left
          · (intro w hSw; (try dsimp only at hSw); go_simp; (try (with_reducible rfl)))
          try simp only [Act.put, List.setIfInBounds_toArray, List.set_cons_zero, List.set_cons_succ]
          refine wpAnyH_take (i := 14) (oi := ⟨some 30, _, _, _, _, _⟩) (v := ?_) rfl (by kernel_rfl) (by kernel_rfl) (by kernel_rfl) (fun _ _ _ h => h) (Or.inl ⟨by rfl, ?_⟩) (by assumption) ?_
          rotate_left
          · (intro w hSw; (try dsimp only at hSw); go_simp; (try (with_reducible rfl)))
          try simp only [Act.put, List.setIfInBounds_toArray, List.set_cons_zero, List.set_cons_succ]
          refine wpAnyH_take (i := 15) (oi := ⟨some 31, _, _, _, _, _⟩) (v := ?_) rfl (by kernel_rfl) (by kernel_rfl) (by kernel_rfl) (fun _ _ _ h => h) (Or.inl ⟨by rfl, ?_⟩) (by assumption) ?_
          rotate_left
          · (intro w hSw; (try dsimp only at hSw); go_simp; (try (with_reducible rfl)))
          try simp only [Act.put, List.setIfInBounds_toArray, List.set_cons_zero, List.set_cons_succ]
          refine wpAnyH_take (i := 16) (oi := ⟨some 32, _, _, _, _, _⟩) (v := ?_) rfl (by kernel_rfl) (by kernel_rfl) (by kernel_rfl) (fun _ _ _ h => h) (Or.inl ⟨by rfl, ?_⟩) (by assumption) ?_
          rotate_left
          · (intro w hSw; (try dsimp only at hSw); go_simp; (try (with_reducible rfl)))
          try simp only [Act.put, List.setIfInBounds_toArray, List.set_cons_zero, List.set_cons_succ]
          refine wpAnyH_take (i := 17) (oi := ⟨some 33, _, _, _, _, _⟩) (v := ?_) rfl (by kernel_rfl) (by kernel_rfl) (by kernel_rfl) (fun _ _ _ h => h) (Or.inl ⟨by rfl, ?_⟩) (by assumption) ?_
          rotate_left
          · (intro w hSw; (try dsimp only at hSw); go_simp; (try (with_reducible rfl)))
          try simp only [Act.put, List.setIfInBounds_toArray, List.set_cons_zero, List.set_cons_succ]
          refine wpAnyH_take (i := 18) (oi := ⟨some 34, _, _, _, _, _⟩) (v := ?_) rfl (by kernel_rfl) (by kernel_rfl) (by kernel_rfl) (fun _ _ _ h => h) (Or.inl ⟨by rfl, ?_⟩) (by assumption) ?_
          rotate_left
          · (intro w hSw; (try dsimp only at hSw); go_simp; (try (with_reducible rfl)))
          try simp only [Act.put, List.setIfInBounds_toArray, List.set_cons_zero, List.set_cons_succ]
          refine wpAnyH_done (by kernel_rfl) ?_ _
          have HG4 := Lib.hid (HG.out.below d4 HG.out.lt)
          have HB4 := Lib.hid (btrans HB.out d4)
          clear p0 p1 k0 k1 k2 k3 hHeld c5 c6 d4 b4
          go_wp2_with fail
          go_roundg g2
          case measure => omega
          case rel => exact ⟨i + 1, by omega, by go_num, HN, HG4.out, HB4.out⟩
        · have hq1 : (((r.length : Nat) : Int) != ((r0.length : Nat) : Int)) = true := by rw [bne_iff_ne]; omega
          have hq2 : (((r.length : Nat) : Int) == ((r0.length : Nat) : Int)) = false := by rw [beq_eq_false_iff_ne]; omega
          have hq3 : (r.length == r0.length) = false := by rw [beq_eq_false_iff_ne]; exact hlen
          have HF := Lib.hid (HNO.out fun h => hlen h.2)
          clear hlen hso hst
          go_wp2_with fail
          refine wp_region_held_drew (S := (fun w' : World => w'.cell? ⟨w.heap.size, 0, none⟩ = some (.int .i64 (n : Int)) ∧ w'.cell? ⟨w.heap.size, 1, none⟩ = some (.slice A l.length c) ∧ w'.cell? ⟨g5, o5 + i, none⟩ = some (.slice Ax r.length cx) ∧ w'.cell? ⟨g5, o5, none⟩ = some (.slice Ay r0.length cy))) (by kernel_rfl) (by (try dsimp only); simp [*]) (fun hHeld => ?_)
          change wpAnyH _ _ _ _ _ _ #[false, false, false, false, false, false, false, false, false, false, false, false, false, false, false, false, false, false, false] _ _
          refine wpAnyH_take (i := 0) (oi := ⟨some 16, _, _, _, _, _⟩) (v := ?_) rfl (by kernel_rfl) (by kernel_rfl) (by kernel_rfl) (fun _ _ _ h => h) (Or.inl ⟨by rfl, ?_⟩) (by assumption) ?_
          rotate_left
          · (intro w hSw; (try dsimp only at hSw); go_simp; (try (with_reducible rfl)))
          try simp only [Act.put, List.setIfInBounds_toArray, List.set_cons_zero, List.set_cons_succ]
          refine wpAnyH_take (i := 1) (oi := ⟨some 17, _, _, _, _, _⟩) (v := ?_) rfl (by kernel_rfl) (by kernel_rfl) (by kernel_rfl) (fun _ _ _ h => h) (Or.inl ⟨by rfl, ?_⟩) (by assumption) ?_
          rotate_left
          · (intro w hSw; (try dsimp only at hSw); go_simp; (try (with_reducible rfl)))
          try simp only [Act.put, List.setIfInBounds_toArray, List.set_cons_zero, List.set_cons_succ]
          refine wpAnyH_take (i := 2) (oi := ⟨some 18, _, _, _, _, _⟩) (v := ?_) rfl (by kernel_rfl) (by kernel_rfl) (by kernel_rfl) (fun _ _ _ h => h) (Or.inl ⟨by rfl, ?_⟩) (by assumption) ?_
          rotate_left
          · (intro w hSw; (try dsimp only at hSw); go_simp; (try (with_reducible rfl)))
          try simp only [Act.put, List.setIfInBounds_toArray, List.set_cons_zero, List.set_cons_succ]
          refine wpAnyH_take (i := 3) (oi := ⟨some 19, _, _, _, _, _⟩) (v := ?_) rfl (by kernel_rfl) (by kernel_rfl) (by kernel_rfl) (fun _ _ _ h => h) (Or.inl ⟨by rfl, ?_⟩) (by assumption) ?_
          rotate_left
          · (intro w hSw; (try dsimp only at hSw); go_simp; (try (with_reducible rfl)))
          try simp only [Act.put, List.setIfInBounds_toArray, List.set_cons_zero, List.set_cons_succ]
          refine wpAnyH_take (i := 4) (oi := ⟨some 20, _, _, _, _, _⟩) (v := ?_) rfl (by kernel_rfl) (by kernel_rfl) (by kernel_rfl) (fun _ _ _ h => h) (Or.inl ⟨by rfl, ?_⟩) (by assumption) ?_
          rotate_left
          · (intro w hSw; (try dsimp only at hSw); go_simp; (try (with_reducible rfl)))
          try simp only [Act.put, List.setIfInBounds_toArray, List.set_cons_zero, List.set_cons_succ]
          refine wpAnyH_ready (rs := [5]) (by kernel_rfl) (by simp) ?_
          refine AllReadyH.cons (o := ⟨some 21, _, _, _, _, _⟩) rfl (fun K hK => ?_) AllReadyH.nil
          go_simp
          (with_reducible refine HS1.out.mono ?_); rintro e w4 ⟨rfl, b4⟩; have d4 : Below wr.heap.size wr w4 := btrans (Below.refl _ _).drew b4; obtain ⟨k0, k1, -, -⟩ := (HG.out.below d4 HG.out.lt).two; have k2 := nearv.cell_keep c5 d4; have k3 := nearv.cell_keep c6 d4
          go_wp2_with fail
          refine hK.out _ _ (by (try dsimp only); simp [*]) (fun hHeld => ?_)
          clear hK K
          try simp only [List.setIfInBounds_toArray, List.set_cons_zero, List.set_cons_succ]
          refine wpAnyH_take (i := 6) (oi := ⟨some 22, _, _, _, _, _⟩) (v := ?_) rfl (by kernel_rfl) (by kernel_rfl) (by kernel_rfl) (fun _ _ _ h => h) (Or.inl ⟨by rfl, ?_⟩) (by assumption) ?_
          rotate_left
          · (intro w hSw; (try dsimp only at hSw); go_simp; (try (with_reducible rfl)))
          try simp only [Act.put, List.setIfInBounds_toArray, List.set_cons_zero, List.set_cons_succ]
          refine wpAnyH_take (i := 7) (oi := ⟨some 23, _, _, _, _, _⟩) (v := ?_) rfl (by kernel_rfl) (by kernel_rfl) (by kernel_rfl) (fun _ _ _ h => h) (Or.inl ⟨by rfl, ?_⟩) (by assumption) ?_
          rotate_left
          · (intro w hSw; (try dsimp only at hSw); go_simp; (try (with_reducible rfl)))
          try simp only [Act.put, List.setIfInBounds_toArray, List.set_cons_zero, List.set_cons_succ]
          refine wpAnyH_take (i := 8) (oi := ⟨some 24, _, _, _, _, _⟩) (v := ?_) rfl (by kernel_rfl) (by kernel_rfl) (by kernel_rfl) (fun _ _ _ h => h) (Or.inl ⟨by rfl, ?_⟩) (by assumption) ?_
          rotate_left
          · (intro w hSw; (try dsimp only at hSw); go_simp; (try (with_reducible rfl)))
          try simp only [Act.put, List.setIfInBounds_toArray, List.set_cons_zero, List.set_cons_succ]
          refine wpAnyH_take (i := 9) (oi := ⟨some 25, _, _, _, _, _⟩) (v := ?_) rfl (by kernel_rfl) (by kernel_rfl) (by kernel_rfl) (fun _ _ _ h => h) (Or.inl ⟨by rfl, ?_⟩) (by assumption) ?_
          rotate_left
          · (intro w hSw; (try dsimp only at hSw); go_simp; (try (with_reducible rfl)))
          try simp only [Act.put, List.setIfInBounds_toArray, List.set_cons_zero, List.set_cons_succ]
          refine wpAnyH_take (i := 10) (oi := ⟨some 26, _, _, _, _, _⟩) (v := ?_) rfl (by kernel_rfl) (by kernel_rfl) (by kernel_rfl) (fun _ _ _ h => h) (Or.inl ⟨by rfl, ?_⟩) (by assumption) ?_
          rotate_left
          · (intro w hSw; (try dsimp only at hSw); go_simp; (try (with_reducible rfl)))
          try simp only [Act.put, List.setIfInBounds_toArray, List.set_cons_zero, List.set_cons_succ]
          refine wpAnyH_take (i := 11) (oi := ⟨some 27, _, _, _, _, _⟩) (v := ?_) rfl (by kernel_rfl) (by kernel_rfl) (by kernel_rfl) (fun _ _ _ h => h) (Or.inl ⟨by rfl, ?_⟩) (by assumption) ?_
          rotate_left
          · (intro w hSw; (try dsimp only at hSw); go_simp; (try (with_reducible rfl)))
          try simp only [Act.put, List.setIfInBounds_toArray, List.set_cons_zero, List.set_cons_succ]
          refine wpAnyH_take (i := 12) (oi := ⟨some 28, _, _, _, _, _⟩) (v := ?_) rfl (by kernel_rfl) (by kernel_rfl) (by kernel_rfl) (fun _ _ _ h => h) (Or.inl ⟨by rfl, ?_⟩) (by assumption) ?_
          rotate_left
          · (intro w hSw; (try dsimp only at hSw); go_simp; (try (with_reducible rfl)))
          try simp only [Act.put, List.setIfInBounds_toArray, List.set_cons_zero, List.set_cons_succ]
          refine wpAnyH_take (i := 13) (oi := ⟨some 29, _, _, _, _, _⟩) (v := ?_) rfl (by kernel_rfl) (by kernel_rfl) (by kernel_rfl) (fun _ _ _ h => h) (Or.inl ⟨by rfl, ?_⟩) (by assumption) ?_
          rotate_left
          · (intro w hSw; (try dsimp only at hSw); go_simp; (try (with_reducible rfl)))
          try simp only [Act.put, List.setIfInBounds_toArray, List.set_cons_zero, List.set_cons_succ]
          refine wpAnyH_take (i := 14) (oi := ⟨some 30, _, _, _, _, _⟩) (v := ?_) rfl (by kernel_rfl) (by kernel_rfl) (by kernel_rfl) (fun _ _ _ h => h) (Or.inl ⟨by rfl, ?_⟩) (by assumption) ?_
          rotate_left
          · (intro w hSw; (try dsimp only at hSw); go_simp; (try (with_reducible rfl)))
          try simp only [Act.put, List.setIfInBounds_toArray, List.set_cons_zero, List.set_cons_succ]
          refine wpAnyH_take (i := 15) (oi := ⟨some 31, _, _, _, _, _⟩) (v := ?_) rfl (by kernel_rfl) (by kernel_rfl) (by kernel_rfl) (fun _ _ _ h => h) (Or.inl ⟨by rfl, ?_⟩) (by assumption) ?_
          rotate_left
          · (intro w hSw; (try dsimp only at hSw); go_simp; (try (with_reducible rfl)))
          try simp only [Act.put, List.setIfInBounds_toArray, List.set_cons_zero, List.set_cons_succ]
          refine wpAnyH_take (i := 16) (oi := ⟨some 32, _, _, _, _, _⟩) (v := ?_) rfl (by kernel_rfl) (by kernel_rfl) (by kernel_rfl) (fun _ _ _ h => h) (Or.inl ⟨by rfl, ?_⟩) (by assumption) ?_
          rotate_left
          · (intro w hSw; (try dsimp only at hSw); go_simp; (try (with_reducible rfl)))
          try simp only [Act.put, List.setIfInBounds_toArray, List.set_cons_zero, List.set_cons_succ]
          refine wpAnyH_take (i := 17) (oi := ⟨some 33, _, _, _, _, _⟩) (v := ?_) rfl (by kernel_rfl) (by kernel_rfl) (by kernel_rfl) (fun _ _ _ h => h) (Or.inl ⟨by rfl, ?_⟩) (by assumption) ?_
          rotate_left
          · (intro w hSw; (try dsimp only at hSw); go_simp; (try (with_reducible rfl)))
          try simp only [Act.put, List.setIfInBounds_toArray, List.set_cons_zero, List.set_cons_succ]
          refine wpAnyH_take (i := 18) (oi := ⟨some 34, _, _, _, _, _⟩) (v := ?_) rfl (by kernel_rfl) (by kernel_rfl) (by kernel_rfl) (fun _ _ _ h => h) (Or.inl ⟨by rfl, ?_⟩) (by assumption) ?_
          rotate_left
          · (intro w hSw; (try dsimp only at hSw); go_simp; (try (with_reducible rfl)))
          try simp only [Act.put, List.setIfInBounds_toArray, List.set_cons_zero, List.set_cons_succ]
          refine wpAnyH_done (by kernel_rfl) ?_ _
          have HB4 := Lib.hid (btrans HB.out d4)
          clear p0 p1 k0 k1 k2 k3 hHeld c5 c6 d4 b4
          go_wp2_with fail
          go_ret
          rw [HF.out]
          exact ⟨rfl, HB4.out⟩
      · rw [okG_no (fun h => hso ((HRS.out r).1 h))] at hst
        have HS1 := Lib.hid hst
        have HF := Lib.hid (HNO.out fun h => hso h.1)
        clear hso hst
        go_wp2_with fail
        refine wp_region_held_drew (S := (fun w' : World => w'.cell? ⟨w.heap.size, 0, none⟩ = some (.int .i64 (n : Int)) ∧ w'.cell? ⟨w.heap.size, 1, none⟩ = some (.slice A l.length c) ∧ w'.cell? ⟨g5, o5 + i, none⟩ = some (.slice Ax r.length cx))) (by kernel_rfl) (by (try dsimp only); simp [*]) (fun hHeld => ?_)
        change wpAnyH _ _ _ _ _ _ #[false, false, false, false, false, false, false, false, false, false, false, false, false, false, false, false, false, false, false] _ _
        refine wpAnyH_take (i := 0) (oi := ⟨some 16, _, _, _, _, _⟩) (v := ?_) rfl (by kernel_rfl) (by kernel_rfl) (by kernel_rfl) (fun _ _ _ h => h) (Or.inl ⟨by rfl, ?_⟩) (by assumption) ?_
        rotate_left
        · (intro w hSw; (try dsimp only at hSw); go_simp; (try (with_reducible rfl)))
        try simp only [Act.put, List.setIfInBounds_toArray, List.set_cons_zero, List.set_cons_succ]
        refine wpAnyH_take (i := 1) (oi := ⟨some 17, _, _, _, _, _⟩) (v := ?_) rfl (by kernel_rfl) (by kernel_rfl) (by kernel_rfl) (fun _ _ _ h => h) (Or.inl ⟨by rfl, ?_⟩) (by assumption) ?_
        rotate_left
        · (intro w hSw; (try dsimp only at hSw); go_simp; (try (with_reducible rfl)))
        try simp only [Act.put, List.setIfInBounds_toArray, List.set_cons_zero, List.set_cons_succ]
        refine wpAnyH_take (i := 2) (oi := ⟨some 18, _, _, _, _, _⟩) (v := ?_) rfl (by kernel_rfl) (by kernel_rfl) (by kernel_rfl) (fun _ _ _ h => h) (Or.inl ⟨by rfl, ?_⟩) (by assumption) ?_
        rotate_left
        · (intro w hSw; (try dsimp only at hSw); go_simp; (try (with_reducible rfl)))
        try simp only [Act.put, List.setIfInBounds_toArray, List.set_cons_zero, List.set_cons_succ]
        refine wpAnyH_take (i := 3) (oi := ⟨some 19, _, _, _, _, _⟩) (v := ?_) rfl (by kernel_rfl) (by kernel_rfl) (by kernel_rfl) (fun _ _ _ h => h) (Or.inl ⟨by rfl, ?_⟩) (by assumption) ?_
        rotate_left
        · (intro w hSw; (try dsimp only at hSw); go_simp; (try (with_reducible rfl)))
        try simp only [Act.put, List.setIfInBounds_toArray, List.set_cons_zero, List.set_cons_succ]
        refine wpAnyH_take (i := 4) (oi := ⟨some 20, _, _, _, _, _⟩) (v := ?_) rfl (by kernel_rfl) (by kernel_rfl) (by kernel_rfl) (fun _ _ _ h => h) (Or.inl ⟨by rfl, ?_⟩) (by assumption) ?_
        rotate_left
        · (intro w hSw; (try dsimp only at hSw); go_simp; (try (with_reducible rfl)))
        try simp only [Act.put, List.setIfInBounds_toArray, List.set_cons_zero, List.set_cons_succ]
        refine wpAnyH_ready (rs := [5]) (by kernel_rfl) (by simp) ?_
        refine AllReadyH.cons (o := ⟨some 21, _, _, _, _, _⟩) rfl (fun K hK => ?_) AllReadyH.nil
        go_simp
        (with_reducible refine HS1.out.mono ?_); rintro e w4 ⟨rfl, b4⟩; have d4 : Below wr.heap.size wr w4 := btrans (Below.refl _ _).drew b4; obtain ⟨k0, k1, -, -⟩ := (HG.out.below d4 HG.out.lt).two; have k2 := nearv.cell_keep c5 d4
        go_wp2_with fail
        refine hK.out _ _ (by (try dsimp only); simp [*]) (fun hHeld => ?_)
        clear hK K
        try simp only [List.setIfInBounds_toArray, List.set_cons_zero, List.set_cons_succ]
        refine wpAnyH_take (i := 6) (oi := ⟨some 22, _, _, _, _, _⟩) (v := ?_) rfl (by kernel_rfl) (by kernel_rfl) (by kernel_rfl) (fun _ _ _ h => h) (Or.inl ⟨by rfl, ?_⟩) (by assumption) ?_
        rotate_left
        · (intro w hSw; (try dsimp only at hSw); go_simp; (try (with_reducible rfl)))
        try simp only [Act.put, List.setIfInBounds_toArray, List.set_cons_zero, List.set_cons_succ]
        refine wpAnyH_take (i := 7) (oi := ⟨some 23, _, _, _, _, _⟩) (v := ?_) rfl (by kernel_rfl) (by kernel_rfl) (by kernel_rfl) (fun _ _ _ h => h) (Or.inl ⟨by rfl, ?_⟩) (by assumption) ?_
        rotate_left
        · (intro w hSw; (try dsimp only at hSw); go_simp; (try (with_reducible rfl)))
        try simp only [Act.put, List.setIfInBounds_toArray, List.set_cons_zero, List.set_cons_succ]
        refine wpAnyH_take (i := 8) (oi := ⟨some 24, _, _, _, _, _⟩) (v := undef) rfl (by kernel_rfl) (by kernel_rfl) (by kernel_rfl) (fun _ _ _ h => h) (Or.inr ⟨by rfl, rfl⟩) (by assumption) ?_
        try simp only [Act.put, List.setIfInBounds_toArray, List.set_cons_zero, List.set_cons_succ]
        refine wpAnyH_take (i := 9) (oi := ⟨some 25, _, _, _, _, _⟩) (v := undef) rfl (by kernel_rfl) (by kernel_rfl) (by kernel_rfl) (fun _ _ _ h => h) (Or.inr ⟨by rfl, rfl⟩) (by assumption) ?_
        try simp only [Act.put, List.setIfInBounds_toArray, List.set_cons_zero, List.set_cons_succ]
        refine wpAnyH_take (i := 10) (oi := ⟨some 26, _, _, _, _, _⟩) (v := undef) rfl (by kernel_rfl) (by kernel_rfl) (by kernel_rfl) (fun _ _ _ h => h) (Or.inr ⟨by rfl, rfl⟩) (by assumption) ?_
        try simp only [Act.put, List.setIfInBounds_toArray, List.set_cons_zero, List.set_cons_succ]
        refine wpAnyH_take (i := 11) (oi := ⟨some 27, _, _, _, _, _⟩) (v := undef) rfl (by kernel_rfl) (by kernel_rfl) (by kernel_rfl) (fun _ _ _ h => h) (Or.inr ⟨by rfl, rfl⟩) (by assumption) ?_
        try simp only [Act.put, List.setIfInBounds_toArray, List.set_cons_zero, List.set_cons_succ]
        refine wpAnyH_take (i := 12) (oi := ⟨some 28, _, _, _, _, _⟩) (v := undef) rfl (by kernel_rfl) (by kernel_rfl) (by kernel_rfl) (fun _ _ _ h => h) (Or.inr ⟨by rfl, rfl⟩) (by assumption) ?_
        try simp only [Act.put, List.setIfInBounds_toArray, List.set_cons_zero, List.set_cons_succ]
        refine wpAnyH_take (i := 13) (oi := ⟨some 29, _, _, _, _, _⟩) (v := undef) rfl (by kernel_rfl) (by kernel_rfl) (by kernel_rfl) (fun _ _ _ h => h) (Or.inr ⟨by rfl, rfl⟩) (by assumption) ?_
        try simp only [Act.put, List.setIfInBounds_toArray, List.set_cons_zero, List.set_cons_succ]
        refine wpAnyH_take (i := 14) (oi := ⟨some 30, _, _, _, _, _⟩) (v := undef) rfl (by kernel_rfl) (by kernel_rfl) (by kernel_rfl) (fun _ _ _ h => h) (Or.inr ⟨by rfl, rfl⟩) (by assumption) ?_
        try simp only [Act.put, List.setIfInBounds_toArray, List.set_cons_zero, List.set_cons_succ]
        refine wpAnyH_take (i := 15) (oi := ⟨some 31, _, _, _, _, _⟩) (v := undef) rfl (by kernel_rfl) (by kernel_rfl) (by kernel_rfl) (fun _ _ _ h => h) (Or.inr ⟨by rfl, rfl⟩) (by assumption) ?_
        try simp only [Act.put, List.setIfInBounds_toArray, List.set_cons_zero, List.set_cons_succ]
        refine wpAnyH_take (i := 16) (oi := ⟨some 32, _, _, _, _, _⟩) (v := undef) rfl (by kernel_rfl) (by kernel_rfl) (by kernel_rfl) (fun _ _ _ h => h) (Or.inr ⟨by rfl, rfl⟩) (by assumption) ?_
        try simp only [Act.put, List.setIfInBounds_toArray, List.set_cons_zero, List.set_cons_succ]
        refine wpAnyH_take (i := 17) (oi := ⟨some 33, _, _, _, _, _⟩) (v := undef) rfl (by kernel_rfl) (by kernel_rfl) (by kernel_rfl) (fun _ _ _ h => h) (Or.inr ⟨by rfl, rfl⟩) (by assumption) ?_
        try simp only [Act.put, List.setIfInBounds_toArray, List.set_cons_zero, List.set_cons_succ]
        refine wpAnyH_take (i := 18) (oi := ⟨some 34, _, _, _, _, _⟩) (v := ?_) rfl (by kernel_rfl) (by kernel_rfl) (by kernel_rfl) (fun _ _ _ h => h) (Or.inl ⟨by rfl, ?_⟩) (by assumption) ?_
        rotate_left
        · (intro w hSw; (try dsimp only at hSw); go_simp; (try (with_reducible rfl)))
        try simp only [Act.put, List.setIfInBounds_toArray, List.set_cons_zero, List.set_cons_succ]
        refine wpAnyH_done (by kernel_rfl) ?_ _
        have HB4 := Lib.hid (btrans HB.out d4)
        clear p0 p1 k0 k1 k2 hHeld c5 c6 d4 b4
        go_wp2_with fail
        go_ret
        rw [HF.out]
        exact ⟨rfl, HB4.out⟩
    | zero =>
      obtain rfl : i = q.length := by omega
      have hsets : ∀ r ∈ q, SetOk (n : Int) l r := fun r hr => by
        obtain ⟨j, hj⟩ := List.getElem?_of_mem hr
        exact (hall.out j r (List.getElem?_eq_some_iff.1 hj).1 hj).1
      have hsame : ∀ r ∈ q, r.length = (q.headD []).length := fun r hr => by
        obtain ⟨j, hj⟩ := List.getElem?_of_mem hr
        exact (hall.out j r (List.getElem?_eq_some_iff.1 hj).1 hj).2
      have hrow := row_code hn hsets
      have hLq : (q.map codeL).length = q.length := List.length_map _
      have hLm : ∀ c ∈ q.map codeL, c < 2 ^ n ∧ onesN c = (q.headD []).length := fun c hc => by
        obtain ⟨r, hr, rfl⟩ := List.mem_map.1 hc
        exact ⟨code_set (hsets r hr), (set_onesM hn (hsets r hr)).trans (hsame r hr)⟩
      have HFA : Hid (0 < q.length → FamP (n : Int) l q) := fun hp => ⟨HGD.out, List.length_pos_iff.1 hp, fun r hr => ⟨hsets r hr, hsame r hr⟩⟩
      have HT2 : Hid (ReadsG w (.slice A2 (rowN (q.map codeL)).length c2) us (rowN (q.map codeL))) := by show ReadsG _ _ _ _; rw [hrow]; exact HT.out
      have HRQ : Hid ((rowN (q.map codeL)).length = q.length) := by show _ = _; rw [hrow]
      have HEV : Hid ((∀ (j a : Nat), j < (q.map codeL).length → (q.map codeL)[j]? = some a → holdB n l all (q.map codeL) a = true) → rv = decide (0 < q.length)) := fun h => by
        rw [HRV.out]
        by_cases hp : 0 < q.length
        · rw [decide_eq_true hp]
          refine okG_yes ⟨HFA.out hp, fun r hr => ?_⟩
          obtain ⟨j, hj⟩ := List.getElem?_of_mem hr
          rw [Int.toNat_natCast]
          exact h j _ (by rw [hLq]; exact (List.getElem?_eq_some_iff.1 hj).1) (by rw [List.getElem?_map, hj]; rfl)
        · rw [decide_eq_false hp]
          exact okG_no fun h2 => h2.1.2.1 (List.length_eq_zero_iff.1 (by omega))
      have HEF : Hid (∀ (j a : Nat), (q.map codeL)[j]? = some a → holdB n l all (q.map codeL) a = false → rv = false) := fun j a hj hf => by
        rw [HRV.out]
        refine okG_no fun h2 => ?_
        obtain ⟨r, hr, rfl⟩ := List.mem_map.1 (List.mem_of_getElem? hj)
        have := h2.2 r hr
        rw [Int.toNat_natCast, hf] at this; cases this
      have HET := Lib.hid (fun (x a : Nat) (ha : a ∈ q.map codeL) (u : Value) (W : World) (hW : Below w.heap.size w W) (hu : Ints W u (ndN a)) => l10Eternal_any n x a all (.slice A l.length c) (.slice A2 (rowN (q.map codeL)).length c2) u us (q.map codeL) l W (H.out.below hW) hl (HT2.out.below hW) hu (fun c hc => ⟨(hLm c hc).1, (hLm c hc).2.trans (hLm a ha).2.symm⟩) (by omega) HGD.out hn (hLm a ha).1)
      have HB8 : Hid (∀ b ∈ q.map codeL, b < 256) := fun b hb => Nat.lt_of_lt_of_le (hLm b hb).1 (pow_le hn)
      have HHS := Lib.hid (fun (x b : Nat) (hb : b < 256) (u : Value) (W : World) (hu : Ints W u (ndN b)) => (by have h_ := l1Has_any u (ndN b) (x : Int) W hu (by have := nw_len (bitB b) 8; unfold ndN; omega); rw [has_nd hb] at h_; exact h_ : Calls Tryd.prog 45 #[u, .int .i64 (x : Int)] W fun e w' => e = .returned (.bool (b.testBit x)) ∧ W = w'))
      have HK0 : Hid (∀ (j a : Nat), j < 0 → (q.map codeL)[j]? = some a → holdB n l all (q.map codeL) a = true) := fun j a hj => absurd hj (Nat.not_lt_zero _)
      clear hsets hsame hrow hLm hall hgb hB
      rw [HRQ.out] at HET
      have HLL := Lib.hid hLq
      clear hLq
      generalize q.map codeL = LQ at *
      go_wp2_with fail
      clear p0 p1
      go_loopg [8] q.length (fun g iv wr => ∃ i : Nat, i + g = q.length ∧ iv = .int .i64 (i : Int) ∧ Hid (∀ (j a : Nat), j < i → LQ[j]? = some a → holdB n l all LQ a = true) ∧ Blk wr w.heap.size 29 #[.int .i64 (n : Int), .slice A l.length c] ∧ Below w.heap.size w wr)
      case atStart => exact ⟨0, by omega, rfl, HK0, HG.out, HB.out⟩
      case round =>
        clear HK0 HG HB
        obtain ⟨i, hig, rfl, hbef, hgb, hB⟩ := hrel
        obtain ⟨p0, p1, -, -⟩ := hgb.two
        have HB := Lib.hid hB
        have HG := Lib.hid hgb
        cases gk with
        | zero =>
          obtain rfl : i = q.length := by omega
          have HR := Lib.hid (HEV.out (fun j a hj => hbef.out j a (by rw [HLL.out] at hj; exact hj)))
          clear hgb hB
          go_wp2_with fail
          go_ret
          rw [HR.out]
          exact ⟨rfl, HB.out⟩
        | succ g2 =>
          have hlt : i < q.length := by omega
          have hlt' : (i : Int) < (q.length : Int) := by omega
          obtain ⟨a, ha⟩ : ∃ a, LQ[i]? = some a := ⟨_, List.getElem?_eq_getElem (by rw [HLL.out]; exact hlt)⟩
          have ham := List.mem_of_getElem? ha
          have ha8 := HB8.out a ham
          obtain ⟨ua, g5, o5, hu5, hA5, c5, hua⟩ := (HT2.out.below hB).row (rowN_at ha)
          subst hA5
          obtain ⟨Aa, ca, rfl, -⟩ := hua.form
          have HUA := Lib.hid hua
          have HCA := Lib.hid c5
          have HNX : Hid (holdB n l all LQ a = true → ∀ (j b : Nat), j < i + 1 → LQ[j]? = some b → holdB n l all LQ b = true) := fun h j b hj hb => by
            by_cases e : j = i
            · subst e; rw [ha] at hb; cases hb; exact h
            · exact hbef.out j b (by omega) hb
          have HF := Lib.hid (fun (x : Nat) (hx : x < n) (h : attB l all LQ a x = false) => HEF.out i a ha (hold_no hx h))
          have HY := Lib.hid (fun (h : ∀ x, x < n → attB l all LQ a x = true) => HNX.out (hold_yes h))
          have HX0 : Hid (∀ y, y < 0 → attB l all LQ a y = true) := fun y hy => absurd hy (Nat.not_lt_zero _)
          have HE1 := Lib.hid (fun (x : Nat) (W : World) (hW : Below wr.heap.size wr W) => HET.out x a ham _ W (btrans HB.out hW) (HUA.out.below hW))
          have HH1 := Lib.hid (fun (x : Nat) (W : World) (hW : Below wr.heap.size wr W) => HHS.out x a ha8 _ W (HUA.out.below hW))
          obtain ⟨wo, hwo⟩ : ∃ wo, wo = wr := ⟨_, rfl⟩
          subst hwo
          clear ha ham hu5 hua hgb hB hbef c5
          go_wp2_with fail
          clear p0 p1
          go_loopg [9] n (fun g xv wr => ∃ x : Nat, x + g = n ∧ xv = .int .i64 (x : Int) ∧ Hid (∀ y, y < x → attB l all LQ a y = true) ∧ Below wo.heap.size wo wr)
          case atStart => exact ⟨0, by omega, rfl, HX0, Below.refl _ _⟩
          case round =>
            clear HX0
            obtain ⟨x, hxg, rfl, hatt, hB2⟩ := hrel
            have HB2 := Lib.hid hB2
            have HG2 := Lib.hid (HG.out.below hB2 HG.out.lt)
            obtain ⟨p0, p1, -, -⟩ := HG2.out.two
            cases gk with
            | zero =>
              obtain rfl : x = n := by omega
              have HN := Lib.hid (HY.out hatt.out)
              have HBW := Lib.hid (btrans HB.out hB2)
              clear hB2
              go_wp2_with fail
              go_roundg g2
              case measure => omega
              case rel => exact ⟨i + 1, by omega, by go_num, HN, HG2.out, HBW.out⟩
            | succ g3 =>
              have hxn : x < n := by omega
              have hxn' : (x : Int) < (n : Int) := by omega
              have c7 := nearv.cell_keep HCA.out hB2
              have HHX := Lib.hid (HH1.out x wr.drew hB2.drew)
              have HNA : Hid (attB l all LQ a x = true → ∀ y, y < x + 1 → attB l all LQ a y = true) := fun h y hy => by
                by_cases e : y = x
                · subst e; exact h
                · exact hatt.out y (by omega)
              cases hbt : a.testBit x with
              | true =>
                have HN := Lib.hid (HNA.out (by unfold attB; rw [hbt]; rfl))
                rw [hbt] at HHX
                clear hbt hB2 hatt
                go_wp2_with fail
                refine wp_region_held_drew (S := (fun w' : World => w'.cell? ⟨w.heap.size, 0, none⟩ = some (.int .i64 (n : Int)) ∧ w'.cell? ⟨w.heap.size, 1, none⟩ = some (.slice A l.length c) ∧ w'.cell? ⟨g5, o5 + i, none⟩ = some (.slice Aa (ndN a).length ca))) (by kernel_rfl) (by (try dsimp only); simp [*]) (fun hHeld => ?_)
                change wpAnyH _ _ _ _ _ _ #[false, false, false, false, false, false, false, false, false, false, false, false, false, false, false, false, false, false, false] _ _
                refine wpAnyH_take (i := 0) (oi := ⟨some 47, _, _, _, _, _⟩) (v := ?_) rfl (by kernel_rfl) (by kernel_rfl) (by kernel_rfl) (fun _ _ _ h => h) (Or.inl ⟨by rfl, ?_⟩) (by assumption) ?_
                rotate_left
                · (intro w hSw; (try dsimp only at hSw); go_simp; (try (with_reducible rfl)))
                try simp only [Act.put, List.setIfInBounds_toArray, List.set_cons_zero, List.set_cons_succ]
                refine wpAnyH_take (i := 1) (oi := ⟨some 48, _, _, _, _, _⟩) (v := ?_) rfl (by kernel_rfl) (by kernel_rfl) (by kernel_rfl) (fun _ _ _ h => h) (Or.inl ⟨by rfl, ?_⟩) (by assumption) ?_
                rotate_left
                · (intro w hSw; (try dsimp only at hSw); go_simp; (try (with_reducible rfl)))
                try simp only [Act.put, List.setIfInBounds_toArray, List.set_cons_zero, List.set_cons_succ]
                refine wpAnyH_take (i := 2) (oi := ⟨some 49, _, _, _, _, _⟩) (v := ?_) rfl (by kernel_rfl) (by kernel_rfl) (by kernel_rfl) (fun _ _ _ h => h) (Or.inl ⟨by rfl, ?_⟩) (by assumption) ?_
                rotate_left
                · (intro w hSw; (try dsimp only at hSw); go_simp; (try (with_reducible rfl)))
                try simp only [Act.put, List.setIfInBounds_toArray, List.set_cons_zero, List.set_cons_succ]
                refine wpAnyH_take (i := 3) (oi := ⟨some 50, _, _, _, _, _⟩) (v := ?_) rfl (by kernel_rfl) (by kernel_rfl) (by kernel_rfl) (fun _ _ _ h => h) (Or.inl ⟨by rfl, ?_⟩) (by assumption) ?_
                rotate_left
                · (intro w hSw; (try dsimp only at hSw); go_simp; (try (with_reducible rfl)))
                try simp only [Act.put, List.setIfInBounds_toArray, List.set_cons_zero, List.set_cons_succ]
                refine wpAnyH_take (i := 4) (oi := ⟨some 51, _, _, _, _, _⟩) (v := ?_) rfl (by kernel_rfl) (by kernel_rfl) (by kernel_rfl) (fun _ _ _ h => h) (Or.inl ⟨by rfl, ?_⟩) (by assumption) ?_
                rotate_left
                · (intro w hSw; (try dsimp only at hSw); go_simp; (try (with_reducible rfl)))
                try simp only [Act.put, List.setIfInBounds_toArray, List.set_cons_zero, List.set_cons_succ]
                refine wpAnyH_ready (rs := [5]) (by kernel_rfl) (by simp) ?_
                refine AllReadyH.cons (o := ⟨some 52, _, _, _, _, _⟩) rfl (fun K hK => ?_) AllReadyH.nil
                go_simp
                (with_reducible refine HHX.out.mono ?_); rintro e w4 ⟨rfl, rfl⟩; obtain ⟨k0, k1, -, -⟩ := (HG2.out.drewN 1).two
                go_wp2_with fail
                refine hK.out _ _ (by (try dsimp only); simp [*]) (fun hHeld => ?_)
                clear hK K
                try simp only [List.setIfInBounds_toArray, List.set_cons_zero, List.set_cons_succ]
                refine wpAnyH_take (i := 6) (oi := ⟨some 53, _, _, _, _, _⟩) (v := ?_) rfl (by kernel_rfl) (by kernel_rfl) (by kernel_rfl) (fun _ _ _ h => h) (Or.inl ⟨by rfl, ?_⟩) (by assumption) ?_
                rotate_left
                · (intro w hSw; (try dsimp only at hSw); go_simp; (try (with_reducible rfl)))
                try simp only [Act.put, List.setIfInBounds_toArray, List.set_cons_zero, List.set_cons_succ]
                refine wpAnyH_take (i := 7) (oi := ⟨some 54, _, _, _, _, _⟩) (v := ?_) rfl (by kernel_rfl) (by kernel_rfl) (by kernel_rfl) (fun _ _ _ h => h) (Or.inl ⟨by rfl, ?_⟩) (by assumption) ?_
                rotate_left
                · (intro w hSw; (try dsimp only at hSw); go_simp; (try (with_reducible rfl)))
                try simp only [Act.put, List.setIfInBounds_toArray, List.set_cons_zero, List.set_cons_succ]
                refine wpAnyH_take (i := 8) (oi := ⟨some 55, _, _, _, _, _⟩) (v := undef) rfl (by kernel_rfl) (by kernel_rfl) (by kernel_rfl) (fun _ _ _ h => h) (Or.inr ⟨by rfl, rfl⟩) (by assumption) ?_
                try simp only [Act.put, List.setIfInBounds_toArray, List.set_cons_zero, List.set_cons_succ]
                refine wpAnyH_take (i := 9) (oi := ⟨some 56, _, _, _, _, _⟩) (v := undef) rfl (by kernel_rfl) (by kernel_rfl) (by kernel_rfl) (fun _ _ _ h => h) (Or.inr ⟨by rfl, rfl⟩) (by assumption) ?_
                try simp only [Act.put, List.setIfInBounds_toArray, List.set_cons_zero, List.set_cons_succ]
                refine wpAnyH_take (i := 10) (oi := ⟨some 57, _, _, _, _, _⟩) (v := undef) rfl (by kernel_rfl) (by kernel_rfl) (by kernel_rfl) (fun _ _ _ h => h) (Or.inr ⟨by rfl, rfl⟩) (by assumption) ?_
                try simp only [Act.put, List.setIfInBounds_toArray, List.set_cons_zero, List.set_cons_succ]
                refine wpAnyH_take (i := 11) (oi := ⟨some 58, _, _, _, _, _⟩) (v := undef) rfl (by kernel_rfl) (by kernel_rfl) (by kernel_rfl) (fun _ _ _ h => h) (Or.inr ⟨by rfl, rfl⟩) (by assumption) ?_
                try simp only [Act.put, List.setIfInBounds_toArray, List.set_cons_zero, List.set_cons_succ]
                refine wpAnyH_take (i := 12) (oi := ⟨some 59, _, _, _, _, _⟩) (v := undef) rfl (by kernel_rfl) (by kernel_rfl) (by kernel_rfl) (fun _ _ _ h => h) (Or.inr ⟨by rfl, rfl⟩) (by assumption) ?_
                try simp only [Act.put, List.setIfInBounds_toArray, List.set_cons_zero, List.set_cons_succ]
                refine wpAnyH_take (i := 13) (oi := ⟨some 60, _, _, _, _, _⟩) (v := undef) rfl (by kernel_rfl) (by kernel_rfl) (by kernel_rfl) (fun _ _ _ h => h) (Or.inr ⟨by rfl, rfl⟩) (by assumption) ?_
                try simp only [Act.put, List.setIfInBounds_toArray, List.set_cons_zero, List.set_cons_succ]
                refine wpAnyH_take (i := 14) (oi := ⟨some 61, _, _, _, _, _⟩) (v := undef) rfl (by kernel_rfl) (by kernel_rfl) (by kernel_rfl) (fun _ _ _ h => h) (Or.inr ⟨by rfl, rfl⟩) (by assumption) ?_
                try simp only [Act.put, List.setIfInBounds_toArray, List.set_cons_zero, List.set_cons_succ]
                refine wpAnyH_take (i := 15) (oi := ⟨some 62, _, _, _, _, _⟩) (v := undef) rfl (by kernel_rfl) (by kernel_rfl) (by kernel_rfl) (fun _ _ _ h => h) (Or.inr ⟨by rfl, rfl⟩) (by assumption) ?_
                try simp only [Act.put, List.setIfInBounds_toArray, List.set_cons_zero, List.set_cons_succ]
                refine wpAnyH_take (i := 16) (oi := ⟨some 63, _, _, _, _, _⟩) (v := undef) rfl (by kernel_rfl) (by kernel_rfl) (by kernel_rfl) (fun _ _ _ h => h) (Or.inr ⟨by rfl, rfl⟩) (by assumption) ?_
                try simp only [Act.put, List.setIfInBounds_toArray, List.set_cons_zero, List.set_cons_succ]
                refine wpAnyH_take (i := 17) (oi := ⟨some 64, _, _, _, _, _⟩) (v := undef) rfl (by kernel_rfl) (by kernel_rfl) (by kernel_rfl) (fun _ _ _ h => h) (Or.inr ⟨by rfl, rfl⟩) (by assumption) ?_
                try simp only [Act.put, List.setIfInBounds_toArray, List.set_cons_zero, List.set_cons_succ]
                refine wpAnyH_take (i := 18) (oi := ⟨some 65, _, _, _, _, _⟩) (v := ?_) rfl (by kernel_rfl) (by kernel_rfl) (by kernel_rfl) (fun _ _ _ h => h) (Or.inl ⟨by rfl, ?_⟩) (by assumption) ?_
                rotate_left
                · (intro w hSw; (try dsimp only at hSw); go_simp; (try (with_reducible rfl)))
                try simp only [Act.put, List.setIfInBounds_toArray, List.set_cons_zero, List.set_cons_succ]
                refine wpAnyH_done (by kernel_rfl) ?_ _
                have HB4 := Lib.hid HB2.out.drew
                clear p0 p1 k0 k1 hHeld c7
                go_wp2_with fail
                go_roundg g3
                case measure => omega
                case rel => exact ⟨x + 1, by omega, by go_num, HN, HB4.out⟩
              | false =>
                have HEX := Lib.hid (HE1.out x wr.drew hB2.drew)
                rw [hbt] at HHX
                cases han : LQ.any (ansB l all x a) with
                | true =>
                  have HN := Lib.hid (HNA.out (by unfold attB; rw [hbt, han]; rfl))
                  rw [han] at HEX
                  clear hbt hB2 hatt han
                  go_wp2_with fail
                  refine wp_region_held_drew (S := (fun w' : World => w'.cell? ⟨w.heap.size, 0, none⟩ = some (.int .i64 (n : Int)) ∧ w'.cell? ⟨w.heap.size, 1, none⟩ = some (.slice A l.length c) ∧ w'.cell? ⟨g5, o5 + i, none⟩ = some (.slice Aa (ndN a).length ca))) (by kernel_rfl) (by (try dsimp only); simp [*]) (fun hHeld => ?_)
                  change wpAnyH _ _ _ _ _ _ #[false, false, false, false, false, false, false, false, false, false, false, false, false, false, false, false, false, false, false] _ _
                  refine wpAnyH_take (i := 0) (oi := ⟨some 47, _, _, _, _, _⟩) (v := ?_) rfl (by kernel_rfl) (by kernel_rfl) (by kernel_rfl) (fun _ _ _ h => h) (Or.inl ⟨by rfl, ?_⟩) (by assumption) ?_
                  rotate_left
                  · (intro w hSw; (try dsimp only at hSw); go_simp; (try (with_reducible rfl)))
                  try simp only [Act.put, List.setIfInBounds_toArray, List.set_cons_zero, List.set_cons_succ]
                  refine wpAnyH_take (i := 1) (oi := ⟨some 48, _, _, _, _, _⟩) (v := ?_) rfl (by kernel_rfl) (by kernel_rfl) (by kernel_rfl) (fun _ _ _ h => h) (Or.inl ⟨by rfl, ?_⟩) (by assumption) ?_
                  rotate_left
                  · (intro w hSw; (try dsimp only at hSw); go_simp; (try (with_reducible rfl)))
                  try simp only [Act.put, List.setIfInBounds_toArray, List.set_cons_zero, List.set_cons_succ]
                  refine wpAnyH_take (i := 2) (oi := ⟨some 49, _, _, _, _, _⟩) (v := ?_) rfl (by kernel_rfl) (by kernel_rfl) (by kernel_rfl) (fun _ _ _ h => h) (Or.inl ⟨by rfl, ?_⟩) (by assumption) ?_
                  rotate_left
                  · (intro w hSw; (try dsimp only at hSw); go_simp; (try (with_reducible rfl)))
                  try simp only [Act.put, List.setIfInBounds_toArray, List.set_cons_zero, List.set_cons_succ]
                  refine wpAnyH_take (i := 3) (oi := ⟨some 50, _, _, _, _, _⟩) (v := ?_) rfl (by kernel_rfl) (by kernel_rfl) (by kernel_rfl) (fun _ _ _ h => h) (Or.inl ⟨by rfl, ?_⟩) (by assumption) ?_
                  rotate_left
                  · (intro w hSw; (try dsimp only at hSw); go_simp; (try (with_reducible rfl)))
                  try simp only [Act.put, List.setIfInBounds_toArray, List.set_cons_zero, List.set_cons_succ]
                  refine wpAnyH_take (i := 4) (oi := ⟨some 51, _, _, _, _, _⟩) (v := ?_) rfl (by kernel_rfl) (by kernel_rfl) (by kernel_rfl) (fun _ _ _ h => h) (Or.inl ⟨by rfl, ?_⟩) (by assumption) ?_
                  rotate_left
                  · (intro w hSw; (try dsimp only at hSw); go_simp; (try (with_reducible rfl)))
                  try simp only [Act.put, List.setIfInBounds_toArray, List.set_cons_zero, List.set_cons_succ]
                  refine wpAnyH_ready (rs := [5]) (by kernel_rfl) (by simp) ?_
                  refine AllReadyH.cons (o := ⟨some 52, _, _, _, _, _⟩) rfl (fun K hK => ?_) AllReadyH.nil
                  go_simp
                  (with_reducible refine HHX.out.mono ?_); rintro e w4 ⟨rfl, rfl⟩; obtain ⟨k0, k1, -, -⟩ := (HG2.out.drewN 1).two
                  go_wp2_with fail
                  refine hK.out _ _ (by (try dsimp only); simp [*]) (fun hHeld => ?_)
                  clear hK K
                  try simp only [List.setIfInBounds_toArray, List.set_cons_zero, List.set_cons_succ]
                  refine wpAnyH_take (i := 6) (oi := ⟨some 53, _, _, _, _, _⟩) (v := ?_) rfl (by kernel_rfl) (by kernel_rfl) (by kernel_rfl) (fun _ _ _ h => h) (Or.inl ⟨by rfl, ?_⟩) (by assumption) ?_
                  rotate_left
                  · (intro w hSw; (try dsimp only at hSw); go_simp; (try (with_reducible rfl)))
                  try simp only [Act.put, List.setIfInBounds_toArray, List.set_cons_zero, List.set_cons_succ]
                  refine wpAnyH_take (i := 7) (oi := ⟨some 54, _, _, _, _, _⟩) (v := ?_) rfl (by kernel_rfl) (by kernel_rfl) (by kernel_rfl) (fun _ _ _ h => h) (Or.inl ⟨by rfl, ?_⟩) (by assumption) ?_
                  rotate_left
                  · (intro w hSw; (try dsimp only at hSw); go_simp; (try (with_reducible rfl)))
                  try simp only [Act.put, List.setIfInBounds_toArray, List.set_cons_zero, List.set_cons_succ]
                  refine wpAnyH_take (i := 8) (oi := ⟨some 55, _, _, _, _, _⟩) (v := ?_) rfl (by kernel_rfl) (by kernel_rfl) (by kernel_rfl) (fun _ _ _ h => h) (Or.inl ⟨by rfl, ?_⟩) (by assumption) ?_
                  rotate_left
                  · (intro w hSw; (try dsimp only at hSw); go_simp; (try (with_reducible rfl)))
                  try simp only [Act.put, List.setIfInBounds_toArray, List.set_cons_zero, List.set_cons_succ]
                  refine wpAnyH_take (i := 9) (oi := ⟨some 56, _, _, _, _, _⟩) (v := ?_) rfl (by kernel_rfl) (by kernel_rfl) (by kernel_rfl) (fun _ _ _ h => h) (Or.inl ⟨by rfl, ?_⟩) (by assumption) ?_
                  rotate_left
                  · (intro w hSw; (try dsimp only at hSw); go_simp; (try (with_reducible rfl)))
                  try simp only [Act.put, List.setIfInBounds_toArray, List.set_cons_zero, List.set_cons_succ]
                  refine wpAnyH_take (i := 10) (oi := ⟨some 57, _, _, _, _, _⟩) (v := ?_) rfl (by kernel_rfl) (by kernel_rfl) (by kernel_rfl) (fun _ _ _ h => h) (Or.inl ⟨by rfl, ?_⟩) (by assumption) ?_
                  rotate_left
                  · (intro w hSw; (try dsimp only at hSw); go_simp; (try (with_reducible rfl)))
                  try simp only [Act.put, List.setIfInBounds_toArray, List.set_cons_zero, List.set_cons_succ]
                  refine wpAnyH_take (i := 11) (oi := ⟨some 58, _, _, _, _, _⟩) (v := ?_) rfl (by kernel_rfl) (by kernel_rfl) (by kernel_rfl) (fun _ _ _ h => h) (Or.inl ⟨by rfl, ?_⟩) (by assumption) ?_
                  rotate_left
                  · (intro w hSw; (try dsimp only at hSw); go_simp; (try (with_reducible rfl)))
                  try simp only [Act.put, List.setIfInBounds_toArray, List.set_cons_zero, List.set_cons_succ]
                  refine wpAnyH_take (i := 12) (oi := ⟨some 59, _, _, _, _, _⟩) (v := ?_) rfl (by kernel_rfl) (by kernel_rfl) (by kernel_rfl) (fun _ _ _ h => h) (Or.inl ⟨by rfl, ?_⟩) (by assumption) ?_
                  rotate_left
                  · (intro w hSw; (try dsimp only at hSw); go_simp; (try (with_reducible rfl)))
                  try simp only [Act.put, List.setIfInBounds_toArray, List.set_cons_zero, List.set_cons_succ]
                  refine wpAnyH_take (i := 13) (oi := ⟨some 60, _, _, _, _, _⟩) (v := ?_) rfl (by kernel_rfl) (by kernel_rfl) (by kernel_rfl) (fun _ _ _ h => h) (Or.inl ⟨by rfl, ?_⟩) (by assumption) ?_
                  rotate_left
                  · (intro w hSw; (try dsimp only at hSw); go_simp; (try (with_reducible rfl)))
                  try simp only [Act.put, List.setIfInBounds_toArray, List.set_cons_zero, List.set_cons_succ]
                  refine wpAnyH_take (i := 14) (oi := ⟨some 61, _, _, _, _, _⟩) (v := ?_) rfl (by kernel_rfl) (by kernel_rfl) (by kernel_rfl) (fun _ _ _ h => h) (Or.inl ⟨by rfl, ?_⟩) (by assumption) ?_
                  rotate_left
                  · (intro w hSw; (try dsimp only at hSw); go_simp; (try (with_reducible rfl)))
                  try simp only [Act.put, List.setIfInBounds_toArray, List.set_cons_zero, List.set_cons_succ]
                  refine wpAnyH_take (i := 15) (oi := ⟨some 62, _, _, _, _, _⟩) (v := ?_) rfl (by kernel_rfl) (by kernel_rfl) (by kernel_rfl) (fun _ _ _ h => h) (Or.inl ⟨by rfl, ?_⟩) (by assumption) ?_
                  rotate_left
                  · (intro w hSw; (try dsimp only at hSw); go_simp; (try (with_reducible rfl)))
                  try simp only [Act.put, List.setIfInBounds_toArray, List.set_cons_zero, List.set_cons_succ]
                  refine wpAnyH_ready (rs := [16]) (by kernel_rfl) (by simp) ?_
                  refine AllReadyH.cons (o := ⟨some 63, _, _, _, _, _⟩) rfl (fun K hK => ?_) AllReadyH.nil
                  go_simp
                  (with_reducible refine HEX.out.mono ?_); rintro e w4 ⟨rfl, b4⟩; have d4 : Below wr.heap.size wr w4 := btrans (Below.refl _ _).drew b4; obtain ⟨i0_, i1_, -, -⟩ := (HG2.out.below d4 HG2.out.lt).two; have i2_ := nearv.cell_keep c7 d4
                  go_wp2_with fail
                  refine hK.out _ _ (by (try dsimp only); simp [*]) (fun hHeld => ?_)
                  clear hK K
                  try simp only [List.setIfInBounds_toArray, List.set_cons_zero, List.set_cons_succ]
                  refine wpAnyH_take (i := 17) (oi := ⟨some 64, _, _, _, _, _⟩) (v := ?_) rfl (by kernel_rfl) (by kernel_rfl) (by kernel_rfl) (fun _ _ _ h => h) (Or.inl ⟨by rfl, ?_⟩) (by assumption) ?_
                  rotate_left
                  · (intro w hSw; (try dsimp only at hSw); go_simp; (try (with_reducible rfl)))
                  try simp only [Act.put, List.setIfInBounds_toArray, List.set_cons_zero, List.set_cons_succ]
                  refine wpAnyH_take (i := 18) (oi := ⟨some 65, _, _, _, _, _⟩) (v := ?_) rfl (by kernel_rfl) (by kernel_rfl) (by kernel_rfl) (fun _ _ _ h => h) (Or.inl ⟨by rfl, ?_⟩) (by assumption) ?_
                  rotate_left
                  · (intro w hSw; (try dsimp only at hSw); go_simp; (try (with_reducible rfl)))
                  try simp only [Act.put, List.setIfInBounds_toArray, List.set_cons_zero, List.set_cons_succ]
                  refine wpAnyH_done (by kernel_rfl) ?_ _
                  have HB4 := Lib.hid (btrans HB2.out d4)
                  clear p0 p1 k0 k1 hHeld c7 i0_ i1_ i2_ d4 b4
                  go_wp2_with fail
                  go_roundg g3
                  case measure => omega
                  case rel => exact ⟨x + 1, by omega, by go_num, HN, HB4.out⟩
                | false =>
                  have HR := Lib.hid (HF.out x hxn (by unfold attB; rw [hbt, han]; rfl))
                  rw [han] at HEX
                  clear hbt hB2 hatt han
                  go_wp2_with fail
                  refine wp_region_held_drew (S := (fun w' : World => w'.cell? ⟨w.heap.size, 0, none⟩ = some (.int .i64 (n : Int)) ∧ w'.cell? ⟨w.heap.size, 1, none⟩ = some (.slice A l.length c) ∧ w'.cell? ⟨g5, o5 + i, none⟩ = some (.slice Aa (ndN a).length ca))) (by kernel_rfl) (by (try dsimp only); simp [*]) (fun hHeld => ?_)
                  change wpAnyH _ _ _ _ _ _ #[false, false, false, false, false, false, false, false, false, false, false, false, false, false, false, false, false, false, false] _ _
                  refine wpAnyH_take (i := 0) (oi := ⟨some 47, _, _, _, _, _⟩) (v := ?_) rfl (by kernel_rfl) (by kernel_rfl) (by kernel_rfl) (fun _ _ _ h => h) (Or.inl ⟨by rfl, ?_⟩) (by assumption) ?_
                  rotate_left
                  · (intro w hSw; (try dsimp only at hSw); go_simp; (try (with_reducible rfl)))
                  try simp only [Act.put, List.setIfInBounds_toArray, List.set_cons_zero, List.set_cons_succ]
                  refine wpAnyH_take (i := 1) (oi := ⟨some 48, _, _, _, _, _⟩) (v := ?_) rfl (by kernel_rfl) (by kernel_rfl) (by kernel_rfl) (fun _ _ _ h => h) (Or.inl ⟨by rfl, ?_⟩) (by assumption) ?_
                  rotate_left
                  · (intro w hSw; (try dsimp only at hSw); go_simp; (try (with_reducible rfl)))
                  try simp only [Act.put, List.setIfInBounds_toArray, List.set_cons_zero, List.set_cons_succ]
                  refine wpAnyH_take (i := 2) (oi := ⟨some 49, _, _, _, _, _⟩) (v := ?_) rfl (by kernel_rfl) (by kernel_rfl) (by kernel_rfl) (fun _ _ _ h => h) (Or.inl ⟨by rfl, ?_⟩) (by assumption) ?_
                  rotate_left
                  · (intro w hSw; (try dsimp only at hSw); go_simp; (try (with_reducible rfl)))
                  try simp only [Act.put, List.setIfInBounds_toArray, List.set_cons_zero, List.set_cons_succ]
                  refine wpAnyH_take (i := 3) (oi := ⟨some 50, _, _, _, _, _⟩) (v := ?_) rfl (by kernel_rfl) (by kernel_rfl) (by kernel_rfl) (fun _ _ _ h => h) (Or.inl ⟨by rfl, ?_⟩) (by assumption) ?_
                  rotate_left
                  · (intro w hSw; (try dsimp only at hSw); go_simp; (try (with_reducible rfl)))
                  try simp only [Act.put, List.setIfInBounds_toArray, List.set_cons_zero, List.set_cons_succ]
                  refine wpAnyH_take (i := 4) (oi := ⟨some 51, _, _, _, _, _⟩) (v := ?_) rfl (by kernel_rfl) (by kernel_rfl) (by kernel_rfl) (fun _ _ _ h => h) (Or.inl ⟨by rfl, ?_⟩) (by assumption) ?_
                  rotate_left
                  · (intro w hSw; (try dsimp only at hSw); go_simp; (try (with_reducible rfl)))
                  try simp only [Act.put, List.setIfInBounds_toArray, List.set_cons_zero, List.set_cons_succ]
                  refine wpAnyH_ready (rs := [5]) (by kernel_rfl) (by simp) ?_
                  refine AllReadyH.cons (o := ⟨some 52, _, _, _, _, _⟩) rfl (fun K hK => ?_) AllReadyH.nil
                  go_simp
                  (with_reducible refine HHX.out.mono ?_); rintro e w4 ⟨rfl, rfl⟩; obtain ⟨k0, k1, -, -⟩ := (HG2.out.drewN 1).two
                  go_wp2_with fail
                  refine hK.out _ _ (by (try dsimp only); simp [*]) (fun hHeld => ?_)
                  clear hK K
                  try simp only [List.setIfInBounds_toArray, List.set_cons_zero, List.set_cons_succ]
                  refine wpAnyH_take (i := 6) (oi := ⟨some 53, _, _, _, _, _⟩) (v := ?_) rfl (by kernel_rfl) (by kernel_rfl) (by kernel_rfl) (fun _ _ _ h => h) (Or.inl ⟨by rfl, ?_⟩) (by assumption) ?_
                  rotate_left
                  · (intro w hSw; (try dsimp only at hSw); go_simp; (try (with_reducible rfl)))
                  try simp only [Act.put, List.setIfInBounds_toArray, List.set_cons_zero, List.set_cons_succ]
                  refine wpAnyH_take (i := 7) (oi := ⟨some 54, _, _, _, _, _⟩) (v := ?_) rfl (by kernel_rfl) (by kernel_rfl) (by kernel_rfl) (fun _ _ _ h => h) (Or.inl ⟨by rfl, ?_⟩) (by assumption) ?_
                  rotate_left
                  · (intro w hSw; (try dsimp only at hSw); go_simp; (try (with_reducible rfl)))
                  try simp only [Act.put, List.setIfInBounds_toArray, List.set_cons_zero, List.set_cons_succ]
                  refine wpAnyH_take (i := 8) (oi := ⟨some 55, _, _, _, _, _⟩) (v := ?_) rfl (by kernel_rfl) (by kernel_rfl) (by kernel_rfl) (fun _ _ _ h => h) (Or.inl ⟨by rfl, ?_⟩) (by assumption) ?_
                  rotate_left
                  · (intro w hSw; (try dsimp only at hSw); go_simp; (try (with_reducible rfl)))
                  try simp only [Act.put, List.setIfInBounds_toArray, List.set_cons_zero, List.set_cons_succ]
                  refine wpAnyH_take (i := 9) (oi := ⟨some 56, _, _, _, _, _⟩) (v := ?_) rfl (by kernel_rfl) (by kernel_rfl) (by kernel_rfl) (fun _ _ _ h => h) (Or.inl ⟨by rfl, ?_⟩) (by assumption) ?_
                  rotate_left
                  · (intro w hSw; (try dsimp only at hSw); go_simp; (try (with_reducible rfl)))
                  try simp only [Act.put, List.setIfInBounds_toArray, List.set_cons_zero, List.set_cons_succ]
                  refine wpAnyH_take (i := 10) (oi := ⟨some 57, _, _, _, _, _⟩) (v := ?_) rfl (by kernel_rfl) (by kernel_rfl) (by kernel_rfl) (fun _ _ _ h => h) (Or.inl ⟨by rfl, ?_⟩) (by assumption) ?_
                  rotate_left
                  · (intro w hSw; (try dsimp only at hSw); go_simp; (try (with_reducible rfl)))
                  try simp only [Act.put, List.setIfInBounds_toArray, List.set_cons_zero, List.set_cons_succ]
                  refine wpAnyH_take (i := 11) (oi := ⟨some 58, _, _, _, _, _⟩) (v := ?_) rfl (by kernel_rfl) (by kernel_rfl) (by kernel_rfl) (fun _ _ _ h => h) (Or.inl ⟨by rfl, ?_⟩) (by assumption) ?_
                  rotate_left
                  · (intro w hSw; (try dsimp only at hSw); go_simp; (try (with_reducible rfl)))
                  try simp only [Act.put, List.setIfInBounds_toArray, List.set_cons_zero, List.set_cons_succ]
                  refine wpAnyH_take (i := 12) (oi := ⟨some 59, _, _, _, _, _⟩) (v := ?_) rfl (by kernel_rfl) (by kernel_rfl) (by kernel_rfl) (fun _ _ _ h => h) (Or.inl ⟨by rfl, ?_⟩) (by assumption) ?_
                  rotate_left
                  · (intro w hSw; (try dsimp only at hSw); go_simp; (try (with_reducible rfl)))
                  try simp only [Act.put, List.setIfInBounds_toArray, List.set_cons_zero, List.set_cons_succ]
                  refine wpAnyH_take (i := 13) (oi := ⟨some 60, _, _, _, _, _⟩) (v := ?_) rfl (by kernel_rfl) (by kernel_rfl) (by kernel_rfl) (fun _ _ _ h => h) (Or.inl ⟨by rfl, ?_⟩) (by assumption) ?_
                  rotate_left
                  · (intro w hSw; (try dsimp only at hSw); go_simp; (try (with_reducible rfl)))
                  try simp only [Act.put, List.setIfInBounds_toArray, List.set_cons_zero, List.set_cons_succ]
                  refine wpAnyH_take (i := 14) (oi := ⟨some 61, _, _, _, _, _⟩) (v := ?_) rfl (by kernel_rfl) (by kernel_rfl) (by kernel_rfl) (fun _ _ _ h => h) (Or.inl ⟨by rfl, ?_⟩) (by assumption) ?_
                  rotate_left
                  · (intro w hSw; (try dsimp only at hSw); go_simp; (try (with_reducible rfl)))
                  try simp only [Act.put, List.setIfInBounds_toArray, List.set_cons_zero, List.set_cons_succ]
                  refine wpAnyH_take (i := 15) (oi := ⟨some 62, _, _, _, _, _⟩) (v := ?_) rfl (by kernel_rfl) (by kernel_rfl) (by kernel_rfl) (fun _ _ _ h => h) (Or.inl ⟨by rfl, ?_⟩) (by assumption) ?_
                  rotate_left
                  · (intro w hSw; (try dsimp only at hSw); go_simp; (try (with_reducible rfl)))
                  try simp only [Act.put, List.setIfInBounds_toArray, List.set_cons_zero, List.set_cons_succ]
                  refine wpAnyH_ready (rs := [16]) (by kernel_rfl) (by simp) ?_
                  refine AllReadyH.cons (o := ⟨some 63, _, _, _, _, _⟩) rfl (fun K hK => ?_) AllReadyH.nil
                  go_simp
                  (with_reducible refine HEX.out.mono ?_); rintro e w4 ⟨rfl, b4⟩; have d4 : Below wr.heap.size wr w4 := btrans (Below.refl _ _).drew b4; obtain ⟨i0_, i1_, -, -⟩ := (HG2.out.below d4 HG2.out.lt).two; have i2_ := nearv.cell_keep c7 d4
                  go_wp2_with fail
                  refine hK.out _ _ (by (try dsimp only); simp [*]) (fun hHeld => ?_)
                  clear hK K
                  try simp only [List.setIfInBounds_toArray, List.set_cons_zero, List.set_cons_succ]
                  refine wpAnyH_take (i := 17) (oi := ⟨some 64, _, _, _, _, _⟩) (v := ?_) rfl (by kernel_rfl) (by kernel_rfl) (by kernel_rfl) (fun _ _ _ h => h) (Or.inl ⟨by rfl, ?_⟩) (by assumption) ?_
                  rotate_left
                  · (intro w hSw; (try dsimp only at hSw); go_simp; (try (with_reducible rfl)))
                  try simp only [Act.put, List.setIfInBounds_toArray, List.set_cons_zero, List.set_cons_succ]
                  refine wpAnyH_take (i := 18) (oi := ⟨some 65, _, _, _, _, _⟩) (v := ?_) rfl (by kernel_rfl) (by kernel_rfl) (by kernel_rfl) (fun _ _ _ h => h) (Or.inl ⟨by rfl, ?_⟩) (by assumption) ?_
                  rotate_left
                  · (intro w hSw; (try dsimp only at hSw); go_simp; (try (with_reducible rfl)))
                  try simp only [Act.put, List.setIfInBounds_toArray, List.set_cons_zero, List.set_cons_succ]
                  refine wpAnyH_done (by kernel_rfl) ?_ _
                  have HB4 := Lib.hid (btrans HB.out (btrans HB2.out d4))
                  clear p0 p1 k0 k1 hHeld c7 i0_ i1_ i2_ d4 b4
                  go_wp2_with fail
                  go_ret
                  rw [HR.out]
                  exact ⟨rfl, HB4.out⟩
set_option maxHeartbeats 2000000 in
set_option maxRecDepth 100000 in
theorem specIf_any (s : Int) (all : Bool) (v : Value) (A2 : Option Addr) (c2 : Nat) (us : List Value) (q : List (List Int)) (l : List Ed) (w : World) (h : Edges w v l) (hl : l.length ≤ 1048576) (ht : ReadsG w (.slice A2 q.length c2) us q) (hql : q.length ≤ 1048576) (hqr : ∀ r ∈ q, r.length ≤ 1048576) (hs1 : -9223372036854775808 ≤ s) (hs2 : s ≤ 9223372036854775807) :
    Calls Tryd.prog 29 #[.agg #[.int .i64 s, v], .slice A2 q.length c2, .bool all] w fun e w' => e = .returned (.tuple #[.bool (okG (EtP s l all q)), .bool (okG (P2.Good s l))]) ∧ Below w.heap.size w w' := by
  obtain ⟨A, c, rfl, -⟩ := h.form
  have H := Lib.hid h
  have HT := Lib.hid ht
  have b0 : Below w.heap.size w (w.alloc (.cells #[.int .i64 s, .slice A l.length c] 29)) := (Below.refl _ _).alloc (Nat.le_refl _) _
  have HG0 := Lib.hid (Blk.new w 29 #[.int .i64 s, .slice A l.length c])
  obtain ⟨p0, p1, -, -⟩ := HG0.out.two
  have HGD := Lib.hid (l2Good_any s _ l _ (h.below b0) hl hs1 hs2)
  have HB0 := Lib.hid b0
  clear h b0 ht
  by_cases hgd : P2.Good s l
  · rw [goodB_yes hgd] at HGD
    have h0 := hgd.1
    have h8 := hgd.2.1
    obtain ⟨n, rfl⟩ : ∃ n : Nat, s = (n : Int) := ⟨s.toNat, by omega⟩
    have hn : n ≤ 8 := by omega
    have HH := Lib.hid (fun (W : World) (hW : Below w.heap.size w W) => l10Holds_any n all (.slice A l.length c) A2 c2 us q l W (H.out.below hW) hl (HT.out.below hW) hql hqr hgd hn)
    have HVG : Hid (okG (P2.Good (n : Int) l) = true) := okG_yes hgd
    clear hgd
    generalize okG (EtP (n : Int) l all q) = rv at *
    go_enter Tryd.func29, Tryd.ntmps29
    go_wp2_with fail
    refine HGD.out.mono ?_
    rintro e w1 ⟨rfl, b1⟩
    have HE1 := Lib.hid (btrans HB0.out b1)
    have HG1 := Lib.hid (HG0.out.below b1 HG0.out.lt)
    clear p0 p1 b1
    obtain ⟨p0, p1, -, -⟩ := HG1.out.two
    go_wp2_with fail
    refine (HH.out w1 HE1.out).mono ?_
    rintro e w2 ⟨rfl, b2⟩
    go_wp2_with fail
    go_ret2
    rw [HVG.out]
    exact ⟨rfl, btrans HE1.out b2⟩
  · rw [goodB_no hgd] at HGD
    have HV1 : Hid (okG (EtP s l all q) = false) := okG_no fun h => hgd h.1.1
    have HV2 : Hid (okG (P2.Good s l) = false) := okG_no hgd
    clear hgd
    go_enter Tryd.func29, Tryd.ntmps29
    go_wp2_with fail
    refine HGD.out.mono ?_
    rintro e w1 ⟨rfl, b1⟩
    have HE1 := Lib.hid (btrans HB0.out b1)
    clear p0 p1 b1
    go_wp2_with fail
    go_ret2
    rw [HV1.out, HV2.out]
    exact ⟨rfl, HE1.out⟩
end Go.Proofs.YthpodbhiopnnbaaDoor.ups

/- The laws' helpers over arguments of type [][]int: szIntS, szIntSS, toIntSS. -/
namespace Go.Proofs.YthpodbhiopnnbaaDoor.gridl
open Go.RowKit P2 words ints grid gridr owns
set_option linter.unusedVariables false

def szS (left m : Int) : Int := if left - m < 0 then -1 else left - m
/-- what is left of a budget behind a slice of slices, -1 if it is used up -/
def szSS (left : Int) (rows : List (List Int)) : Int := if left - (rows.length : Int) < 0 then -1 else szS (left - (rows.length : Int)) (tot rows : Int)
set_option maxHeartbeats 400000 in
theorem szIntS_any (v : Value) (l : List Int) (left : Int) (w : World) (h : Ints w v l) (h0 : 0 ≤ left) (h1 : left ≤ 1048576) (hl : (l.length : Int) ≤ 9223372036854775807) :
    Calls Tryd.prog 64 #[v, .int .i64 left] w fun e w' => e = .returned (.int .i64 (szS left (l.length : Int))) ∧ w = w' := by
  obtain ⟨A, c, rfl, -⟩ := h.form
  clear h
  have hw : IntKind.i64.wrap (left - (l.length : Int)) = left - (l.length : Int) := IntWalk.i64_in _ (by omega)
  by_cases hn : left - (l.length : Int) < 0
  · have HV : Hid (szS left (l.length : Int) = -1) := by show _ = _; unfold szS; rw [if_pos hn]
    go_enter Tryd.func64, Tryd.ntmps64
    go_wp2_with fail
    go_ret
    exact ⟨ret_int HV.out.symm, rfl⟩
  · have HV : Hid (szS left (l.length : Int) = left - (l.length : Int)) := by show _ = _; unfold szS; rw [if_neg hn]
    go_enter Tryd.func64, Tryd.ntmps64
    go_wp2_with fail
    go_ret
    exact ⟨ret_int HV.out.symm, rfl⟩
set_option maxHeartbeats 1000000 in
theorem szIntSS_any (v : Value) (us : List Value) (rows : List (List Int)) (left : Int) (w : World) (h : ReadsG w v us rows) (h0 : 0 ≤ left) (h1 : left ≤ 1048576) (hl : (rows.length : Int) ≤ 9223372036854775807) (hr : ∀ r ∈ rows, (r.length : Int) ≤ 9223372036854775807) :
    Calls Tryd.prog 28 #[v, .int .i64 left] w fun e w' => e = .returned (.int .i64 (szSS left rows)) ∧ w = w' := by
  obtain ⟨A, c, rfl, -⟩ := h.1
  have H := Lib.hid h
  have HR := Lib.hid hr
  clear h hr
  have hw : IntKind.i64.wrap (left - (rows.length : Int)) = left - (rows.length : Int) := IntWalk.i64_in _ (by omega)
  by_cases hn : left - (rows.length : Int) < 0
  · have HV : Hid (szSS left rows = -1) := by show _ = _; unfold szSS; rw [if_pos hn]
    go_enter Tryd.func28, Tryd.ntmps28
    go_wp2_with fail
    go_ret
    exact ⟨ret_int HV.out.symm, rfl⟩
  · have HV : Hid (szSS left rows = szS (left - (rows.length : Int)) (tot rows : Int)) := by show _ = _; unfold szSS; rw [if_neg hn]
    go_enter Tryd.func28, Tryd.ntmps28
    go_wp2_with fail
    go_loopg [1, 5] rows.length (fun g lv iv wr => ∃ (k : Nat) (b : Int), k + g = rows.length ∧ iv = .int .i64 (k : Int) ∧ lv = .int .i64 b ∧ Hid (b = left - (rows.length : Int) - (tot (rows.take k) : Int) ∧ 0 ≤ b) ∧ w = wr)
    case atStart => exact ⟨0, _, by omega, rfl, rfl, (by show _ ∧ _; simp [tot]; omega), rfl⟩
    case round =>
      obtain ⟨k, b, hkg, rfl, rfl, hb, rfl⟩ := hrel
      cases gk with
      | zero =>
        obtain rfl : k = rows.length := by omega
        have HB : Hid (szSS left rows = b) := by
          show _ = _
          have := hb.out
          rw [HV.out]
          unfold szS
          rw [List.take_length] at this
          rw [if_neg (by omega)]; omega
        go_wp2_with fail
        go_ret
        exact ⟨ret_int HB.out.symm, rfl⟩
      | succ g2 =>
        have hlt : k < rows.length := by omega
        have hlt' : (k : Int) < (rows.length : Int) := by omega
        obtain ⟨r, hrk⟩ : ∃ r, rows[k]? = some r := ⟨_, List.getElem?_eq_getElem hlt⟩
        obtain ⟨u, g, o, hu, rfl, c0, hru⟩ := H.out.row hrk
        have hrl := HR.out r (List.mem_of_getElem? hrk)
        have ht := tot_succ hrk
        have hle := tot_le rows (k + 1)
        have hb0 := hb.out
        have HSZ := Lib.hid (szIntS_any u r b w hru (by omega) (by omega) hrl)
        by_cases hneg : b - (r.length : Int) < 0
        · have HS1 : Hid (szS b (r.length : Int) = -1) := by show _ = _; unfold szS; rw [if_pos hneg]
          have HB : Hid (szSS left rows = -1) := by
            show _ = _
            rw [HV.out]
            unfold szS
            rw [if_pos (by omega)]
          rw [HS1.out] at HSZ
          clear hu hru hrk ht hle hb0
          go_wp2_with fail
          refine HSZ.out.mono ?_
          rintro e w' ⟨rfl, rfl⟩
          go_wp2_with fail
          go_ret
          exact ⟨ret_int HB.out.symm, rfl⟩
        · have HS1 : Hid (szS b (r.length : Int) = b - (r.length : Int)) := by show _ = _; unfold szS; rw [if_neg hneg]
          have HB : Hid (b - (r.length : Int) = left - (rows.length : Int) - (tot (rows.take (k + 1)) : Int) ∧ 0 ≤ b - (r.length : Int)) := by
            show _ ∧ _
            omega
          rw [HS1.out] at HSZ
          clear hu hru hrk ht hle hb0
          generalize b - (r.length : Int) = b2 at *
          go_wp2_with fail
          refine HSZ.out.mono ?_
          rintro e w' ⟨rfl, rfl⟩
          have hb2 : ¬ b2 < 0 := by have := HB.out; omega
          go_wp2_with fail
          go_roundg g2
          case measure => omega
          case rel => exact ⟨k + 1, b2, by omega, by go_num, rfl, HB, rfl⟩
/-- the budget is enough -/
theorem szIntSS_yes (v : Value) (us : List Value) (rows : List (List Int)) (left : Int) (w : World) (h : ReadsG w v us rows) (h0 : 0 ≤ left) (h1 : left ≤ 1048576) (hl : (rows.length : Int) + (tot rows : Int) ≤ left) :
    Calls Tryd.prog 28 #[v, .int .i64 left] w fun e w' => e = .returned (.int .i64 (left - (rows.length : Int) - (tot rows : Int))) ∧ Below w.heap.size w w' :=
  (szIntSS_any v us rows left w h h0 h1 (by omega) (fun r hr => by
    obtain ⟨k, hk⟩ := List.getElem?_of_mem hr
    have := tot_succ hk
    have := tot_le rows (k + 1)
    omega)).mono fun _ _ ⟨e, hw⟩ => ⟨by rw [e]; unfold szSS szS; rw [if_neg (by omega), if_neg (by omega)], hw ▸ Below.refl _ _⟩
/-- it is not -/
theorem szIntSS_no (v : Value) (us : List Value) (rows : List (List Int)) (left : Int) (w : World) (h : ReadsG w v us rows) (h0 : 0 ≤ left) (h1 : left ≤ 1048576) (hl : (rows.length : Int) ≤ 9223372036854775807) (hr : ∀ r ∈ rows, (r.length : Int) ≤ 9223372036854775807) (hn : left < (rows.length : Int) + (tot rows : Int)) :
    Calls Tryd.prog 28 #[v, .int .i64 left] w fun e w' => e = .returned (.int .i64 (-1)) ∧ Below w.heap.size w w' :=
  (szIntSS_any v us rows left w h h0 h1 hl hr).mono fun _ _ ⟨e, hw⟩ => ⟨by
    rw [e]; unfold szSS szS
    by_cases h2 : left - (rows.length : Int) < 0
    · rw [if_pos h2]
    · rw [if_neg h2, if_pos (by omega)], hw ▸ Below.refl _ _⟩
/-- a copy in the making -/
def cpR (rows : List (List Int)) (k : Nat) : List (List Int) := rows.take k ++ List.replicate (rows.length - k) []
theorem cpR_len (rows : List (List Int)) {k : Nat} (h : k ≤ rows.length) : (cpR rows k).length = rows.length := by simp [cpR]; omega
theorem cpR_zero (rows : List (List Int)) : cpR rows 0 = List.replicate rows.length [] := by simp [cpR]
theorem cpR_all (rows : List (List Int)) : cpR rows rows.length = rows := by simp [cpR]
theorem cpR_succ {rows : List (List Int)} {k : Nat} {r : List Int} (h : rows[k]? = some r) : (cpR rows k).set k r = cpR rows (k + 1) := by
  have hk := (List.getElem?_eq_some_iff.1 h).1
  unfold cpR
  rw [show rows.length - k = (rows.length - (k + 1)) + 1 from by omega, List.replicate_succ, List.set_append_right _ _ (by rw [List.length_take]; omega), List.take_add_one, h]
  have e : k - (List.take k rows).length = 0 := by simp; omega
  rw [e, List.set_cons_zero, List.append_assoc]
  rfl
set_option maxHeartbeats 2000000 in
set_option maxRecDepth 100000 in
theorem toIntSS_any (v : Value) (us : List Value) (rows : List (List Int)) (w : World) (h : ReadsG w v us rows) (hl : tot rows ≤ 1048576) (hn : rows.length ≤ 1048576) :
    Calls Tryd.prog 30 #[v] w fun e w' => ∃ A c us', e = .returned (.slice A rows.length c) ∧ OwnG w' w.heap.size (.slice A rows.length c) us' rows ∧ Below w.heap.size w w' := by
  obtain ⟨A, c, rfl, -⟩ := h.1
  obtain ⟨i1, hi1, hy0, hy1, hy2⟩ := info_parts infoRow
  have hmk := fun (W : World) => run_make_rowN (P := Tryd.prog) 35 25 i1 (.slice none 0 0) Tryd.underlying35 hi1 hy0 .i64 .i64 rows.length rows.length (Nat.le_refl _) (by rw [hy2]; omega) (by omega) W
  rw [hy1] at hmk
  simp only [Nat.mul_one] at hmk
  have H := Lib.hid h
  have HM := Lib.hid (OwnG.made w rows.length (by unfold maxLen; omega))
  rw [Nat.mul_one, ← cpR_zero] at HM
  have HE := Lib.hid ((Below.refl w.heap.size w).alloc (Nat.le_refl _) (.cells (madeCells #[.slice none 0 0] rows.length) 25))
  clear h
  go_enter Tryd.func30, Tryd.ntmps30
  go_wp2_with fail
  clear hmk
  go_loopg [4] rows.length (fun g iv wr => ∃ (k : Nat) (vs : List Value), k + g = rows.length ∧ iv = .int .i64 (k : Int) ∧ OwnG wr w.heap.size (.slice (some ⟨w.heap.size, 0, none⟩) rows.length rows.length) vs (cpR rows k) ∧ Below w.heap.size w wr)
  case atStart => exact ⟨0, _, by omega, rfl, HM.out, HE.out⟩
  case round =>
    clear HM HE
    obtain ⟨k, vs, hkg, rfl, hG, hB⟩ := hrel
    cases gk with
    | zero =>
      obtain rfl : k = rows.length := by omega
      rw [cpR_all] at hG
      have HG := Lib.hid hG
      have HB := Lib.hid hB
      clear hG hB
      go_wp2_with fail
      go_ret
      exact ⟨_, _, _, rfl, HG.out, HB.out⟩
    | succ g2 =>
      have hlt : k < rows.length := by omega
      have hlt' : (k : Int) < (rows.length : Int) := by omega
      obtain ⟨r, hr⟩ : ∃ r, rows[k]? = some r := ⟨_, List.getElem?_eq_getElem hlt⟩
      obtain ⟨u, g, o, hu, rfl, c0, hru⟩ := (H.out.below hB).row hr
      obtain ⟨Ar, cr, rfl, -⟩ := hru.form
      have hrl : r.length ≤ 1048576 := by have := tot_succ hr; have := tot_le rows (k + 1); omega
      have HT := Lib.hid (fun (W : World) (hW : Below wr.heap.size wr W) => toIntS_any (.slice Ar r.length cr) r W (hru.below hW) hrl)
      have HT0 := Lib.hid (HT.out wr (Below.refl _ _))
      have HRS := Lib.hid (cpR_succ hr)
      have HRL := Lib.hid (cpR_len rows (k := k) (by omega))
      have HG := Lib.hid hG
      have HB := Lib.hid hB
      have HC := Lib.hid c0
      clear hu hru hr hrl hG hB
      go_wp2_with fail
      refine HT0.out.mono ?_
      rintro e w4 ⟨A5, c5, rfl, o5, b5⟩
      have hG4 := HG.out.below b5
      have h1 := hG4.1
      rw [HRL.out] at h1
      have hul := hG4.len
      rw [HRL.out] at hul
      obtain ⟨u0, hu0⟩ : ∃ u, vs[k]? = some u := ⟨_, List.getElem?_eq_getElem (by omega)⟩
      have f0 := h1.cellAt k (by omega)
      rw [hu0] at f0
      have z0 := h1.frozenAt k
      have hgr := h1.lt w.heap.size rfl
      have HS : Hid (OwnG (w4.setCell ⟨w.heap.size, k, none⟩ (.slice A5 r.length c5)) w.heap.size (.slice (some ⟨w.heap.size, 0, none⟩) rows.length rows.length) (vs.set k (.slice A5 r.length c5)) (cpR rows (k + 1))) := by
        have h9 : OwnG w4 w.heap.size (.slice (some ⟨w.heap.size, 0, none⟩) (cpR rows k).length rows.length) vs (cpR rows k) := by rw [HRL.out]; exact hG4
        have hfr := OwnG.fresh HG.out (own_base o5 (Nat.le_refl _))
        have := OwnG.store h9 (by rw [HRL.out]; exact hlt) (own_base o5 (by have := HB.out.size; omega)) (fun i x b _ hx hb => hfr i x b hx hb)
        rw [HRS.out, HRL.out] at this
        exact this
      have HB5 := Lib.hid ((btrans HB.out b5).setCell (p := ⟨w.heap.size, k, none⟩) hgr.1 (.slice A5 r.length c5))
      clear hG4 h1 hul b5 o5 hu0 c0
      go_wp2_with fail
      go_roundg g2
      case measure => omega
      case rel => exact ⟨k + 1, _, by omega, by go_num, HS.out, HB5.out⟩
end Go.Proofs.YthpodbhiopnnbaaDoor.gridl

/- An argument of type [][]int, opened: rows of integers as they came in. -/
namespace Go.Proofs.YthpodbhiopnnbaaDoor.opens
open Go.RowKit Go.Joins Go.ChangeShapes Go.WideShapes Go.Deep P2 words gridr

/-- what is told of a slice of slices of integers that came in -/
def IsRows (w : World) (v : Value) (us : List Value) (rows : List (List Int)) : Prop :=
  ReadsG w v us rows ∧ rows.length ≤ maxLen ∧ ∀ r ∈ rows, r.length ≤ maxLen ∧ ∀ x ∈ r, -9223372036854775808 ≤ x ∧ x ≤ 9223372036854775807

section
variable {H : Type} {enc : TypeId × Value → H} {w : World} {spare : Nat → Bool} {held : Bool}
theorem open_intsv {fuel : Nat} {v : Value} {x : DataW H × List MemPlace} (h : DataW.trod enc Tryd.prog w 0 spare held fuel 25 [v] = some x) : ∃ l, IsIn w v l := by
  rcases open_slice Tryd.underlying25 h with ⟨hv, _⟩ | ⟨a, len', cap', m, n, D, Pl, hv, _, hl, hm, hmm, _, hi⟩
  · obtain rfl : v = .slice none 0 0 := by simpa using hv
    exact ⟨[], Reads.nil _ _, Nat.zero_le _, fun x hx => by cases hx⟩
  · obtain rfl : v = .slice (some a) len' cap' := by simpa using hv
    have hlm : len' ≤ m := by rw [hmm]; split <;> omega
    have hC1 : Tryd.prog.cellsOf 3 = 1 := by kernel_rfl
    rw [hC1] at hi
    have key : ∀ i, i < len' → ∃ x : Int, w.cell? (a.add i) = some (.int .i64 x) ∧ (Lit.int .i64 x).wf = true := fun i hil => by
      obtain ⟨cs', hc, ht⟩ := hi i (by omega)
      obtain ⟨_, hcl, hat⟩ := World.cells?_some hc
      match cs', hcl with
      | [c0], _ =>
        obtain ⟨n0, h0, _, hw⟩ := DataW.trod_int Tryd.underlying3 ht
        obtain rfl : c0 = .int .i64 n0 := by simpa using h0
        have a0 := hat 0 (by decide)
        rw [add_of_add, Nat.mul_one] at a0
        exact ⟨n0, by simpa using a0, hw⟩
    obtain ⟨f, hf⟩ := choose_lt (α := Int) key
    refine ⟨(List.range len').map f, ⟨some a, cap', by simp, fun hn => ?_⟩, by simp; omega, fun x hx => ?_⟩
    · simp only [List.length_map, List.length_range] at hn ⊢
      obtain ⟨b, off, spot⟩ := a
      have hc0 := (hf 0 hn).1
      have hspot : spot = none := by simpa [Addr.add] using World.cell?_spot hc0
      subst hspot
      refine ⟨b, off, rfl, hl, fun j u hu => ?_⟩
      have hjl : j < len' := by
        have := (List.getElem?_eq_some_iff.1 hu).1
        rw [cellsI_len] at this; simpa using this
      have hcl := (hf j hjl).1
      rw [addr_add] at hcl
      have hkf : ((List.range len').map f)[j]? = some (f j) := by simp [hjl]
      rw [cellsI_at hkf] at hu
      rw [hcl, ← hu]
    · simp only [List.mem_map, List.mem_range] at hx
      obtain ⟨j, hj, rfl⟩ := hx
      exact bounds64 (hf j hj).2

set_option maxRecDepth 100000 in
theorem open_rowsl {r : Reach} {b0 : Nat} {v : Value} {d : DataW H} {p : List MemPlace} (hv : Value.okWide Tryd.prog w r b0 35 v)
    (h : DataW.Trod enc Tryd.prog w 0 spare held 35 v d p) : ∃ u us rows, v = u ∧ IsRows w u us rows := by
  obtain ⟨A, len, cap, rfl⟩ := okWide_slice Tryd.underlying35 hv
  obtain ⟨fuel, hf⟩ := h
  simp only [Value.cells] at hf
  rcases open_slice Tryd.underlying35 hf with ⟨hv, _⟩ | ⟨a, len', cap', m, n, D, Pl, hv, _, hl, hm, hmm, _, hi⟩
  · have e : Value.slice A len cap = .slice none 0 0 := by simpa using hv
    rw [e]
    exact ⟨_, [], [], rfl, ⟨Reads.nil _ _, rfl, fun i u r hu hr => by simp at hu⟩, Nat.zero_le _, fun x hx => by cases hx⟩
  · have e : Value.slice A len cap = .slice (some a) len' cap' := by simpa using hv
    rw [e]
    have hlm : len' ≤ m := by rw [hmm]; split <;> omega
    have hC1 : Tryd.prog.cellsOf 25 = 1 := by kernel_rfl
    rw [hC1] at hi
    have key : ∀ i, i < len' → ∃ y : Value × List Int, w.cell? (a.add i) = some y.1 ∧ IsIn w y.1 y.2 := fun i hil => by
      obtain ⟨cs', hc, ht⟩ := hi i (by omega)
      obtain ⟨_, hcl, hat⟩ := World.cells?_some hc
      match cs', hcl with
      | [c0], _ =>
        obtain ⟨l, hl2⟩ := open_intsv ht
        have a0 := hat 0 (by decide)
        rw [add_of_add, Nat.mul_one] at a0
        exact ⟨(c0, l), by simpa using a0, hl2⟩
    obtain ⟨f, hf⟩ := choose_lt (α := Value × List Int) key
    refine ⟨_, (List.range len').map (fun i => (f i).1), (List.range len').map (fun i => (f i).2), rfl, ⟨⟨some a, cap', by simp, fun hn => ?_⟩, by simp, fun i u r hu hr => ?_⟩, by simp; omega, fun x hx => ?_⟩
    · simp only [List.length_map, List.length_range] at hn ⊢
      obtain ⟨b, off, spot⟩ := a
      have hc0 := (hf 0 hn).1
      have hspot : spot = none := by simpa [Addr.add] using World.cell?_spot hc0
      subst hspot
      refine ⟨b, off, rfl, hl, fun j u hu => ?_⟩
      have hjl : j < len' := by
        have := (List.getElem?_eq_some_iff.1 hu).1
        simpa using this
      have hcl := (hf j hjl).1
      rw [addr_add] at hcl
      have hkf : ((List.range len').map (fun i => (f i).1))[j]? = some (f j).1 := by simp [hjl]
      rw [hkf] at hu
      rw [hcl, ← hu]
    · have hil : i < len' := by
        have := (List.getElem?_eq_some_iff.1 hu).1
        simpa using this
      have h1 : ((List.range len').map (fun i => (f i).1))[i]? = some (f i).1 := by simp [hil]
      have h2 : ((List.range len').map (fun i => (f i).2))[i]? = some (f i).2 := by simp [hil]
      rw [h1] at hu
      rw [h2] at hr
      cases hu
      cases hr
      exact (hf i hil).2.1
    · simp only [List.mem_map, List.mem_range] at hx
      obtain ⟨j, hj, rfl⟩ := hx
      exact (hf j hj).2.2
end
end Go.Proofs.YthpodbhiopnnbaaDoor.opens
