/- What the model's l3Worst, l3After and l3Best tell of a table of times. -/
import Derived.Test.YtpeobnmfndelhaaK10
import Derived.Test.YtpeobnmfndelhaaK06
import Derived.Test.YtpeobnmfndelhaaK13
import Derived.Deep.AppendLies
import Derived.Deep.RegionHeldLaw
import Derived.Test.YtpeobnmfndelhaaK01
import Derived.Test.YtpeobnmfndelhaaK07
namespace Go.Proofs.Ytpeobnmfndelhaa.times
open P2 adjs fns covs
set_option linter.unusedVariables false

theorem if_cong {α : Type} {p q : Prop} [Decidable p] [Decidable q] {a b : α} (h : p ↔ q) : (if p then a else b) = if q then a else b := by
  by_cases hp : p
  · rw [if_pos hp, if_pos (h.1 hp)]
  · rw [if_neg hp, if_neg (fun hq => hp (h.2 hq))]
/-- the greatest value, 0 if there is none; -1 if one is less than 0 -/
def mostL (f : Int → Int) (bl : List Int) : Int := bl.foldl (fun m b => max m (f b)) 0
theorem mostL_succ {f : Int → Int} {bl : List Int} {k : Nat} {b : Int} (h : bl[k]? = some b) : mostL f (bl.take (k + 1)) = max (mostL f (bl.take k)) (f b) := by
  unfold mostL; rw [List.take_add_one, h, List.foldl_append]; rfl
theorem most_fold {f : Int → Int} {j : Int} : ∀ (bl : List Int) (m : Int), bl.foldl (fun m b => max m (f b)) m ≤ j ↔ m ≤ j ∧ ∀ b ∈ bl, f b ≤ j
  | [], m => by simp
  | a :: bl, m => by
    rw [List.foldl_cons, most_fold bl, List.forall_mem_cons]
    constructor
    · rintro ⟨h1, h2⟩; exact ⟨by omega, by omega, h2⟩
    · rintro ⟨h1, h2, h3⟩; exact ⟨by omega, h3⟩
theorem most_le {f : Int → Int} {j : Int} {bl : List Int} : mostL f bl ≤ j ↔ 0 ≤ j ∧ ∀ b ∈ bl, f b ≤ j := most_fold bl 0
theorem most_nonneg (f : Int → Int) (bl : List Int) : 0 ≤ mostL f bl := by
  have := (most_le (f := f) (bl := bl) (j := mostL f bl)).1 (by omega)
  exact this.1
def worstL (f : Int → Int) (bl : List Int) : Int := if bl.any (fun b => decide (f b < 0)) = true then -1 else mostL f bl
theorem worst_no {f : Int → Int} {bl : List Int} {k : Nat} {b : Int} (h : bl[k]? = some b) (hb : f b < 0) : worstL f bl = -1 := by
  unfold worstL; rw [if_pos (List.any_eq_true.2 ⟨b, List.mem_of_getElem? h, by simpa using hb⟩)]
theorem worst_yes {f : Int → Int} {bl : List Int} (h : ∀ j b, j < bl.length → bl[j]? = some b → 0 ≤ f b) : worstL f bl = mostL f bl := by
  unfold worstL
  rw [if_neg]
  intro hh
  obtain ⟨b, hb, hd⟩ := List.any_eq_true.1 hh
  obtain ⟨j, hj⟩ := List.getElem?_of_mem hb
  have := h j b (List.getElem?_eq_some_iff.1 hj).1 hj
  have := of_decide_eq_true hd
  omega
theorem worst_iff {f : Int → Int} {bl : List Int} : 0 ≤ worstL f bl ↔ ∀ b ∈ bl, 0 ≤ f b := by
  unfold worstL
  split
  · rename_i h
    obtain ⟨b, hb, hd⟩ := List.any_eq_true.1 h
    have := of_decide_eq_true hd
    exact ⟨fun h => by omega, fun h => by have := h b hb; omega⟩
  · rename_i h
    refine ⟨fun _ b hb => ?_, fun _ => most_nonneg f bl⟩
    apply Classical.byContradiction
    intro hn
    exact h (List.any_eq_true.2 ⟨b, hb, by simp; omega⟩)
theorem worst_le {f : Int → Int} {bl : List Int} {j : Int} (h : 0 ≤ worstL f bl) : worstL f bl ≤ j ↔ 0 ≤ j ∧ ∀ b ∈ bl, f b ≤ j := by
  have : worstL f bl = mostL f bl := worst_yes fun i b _ hb => worst_iff.1 h b (List.mem_of_getElem? hb)
  rw [this]
  exact most_le
theorem worst_neg {f : Int → Int} {bl : List Int} (h : ¬ 0 ≤ worstL f bl) : worstL f bl = -1 := by
  unfold worstL at *
  split
  · rfl
  · rename_i h2; rw [if_neg h2] at h; exact absurd (most_nonneg f bl) h

def stepB (b t : Int) : Int := if 0 ≤ t ∧ (b < 0 ∨ t < b) then t else b
def bestL (f : Int → Int) (bl : List Int) : Int := bl.foldl (fun b x => stepB b (f x)) (-1)
theorem bestL_succ {f : Int → Int} {bl : List Int} {k : Nat} {b : Int} (h : bl[k]? = some b) : bestL f (bl.take (k + 1)) = stepB (bestL f (bl.take k)) (f b) := by
  unfold bestL; rw [List.take_add_one, h, List.foldl_append]; rfl
theorem best_fold {f : Int → Int} {t : Int} (ht : 0 ≤ t) : ∀ (bl : List Int) (b : Int), (∀ x ∈ bl, f x = -1 ∨ f x = t) → (b = -1 ∨ b = t) →
    bl.foldl (fun b x => stepB b (f x)) b = if b = t ∨ ∃ x ∈ bl, 0 ≤ f x then t else -1
  | [], b, _, hb => by
    rcases hb with rfl | rfl
    · rw [if_neg (by simp; omega)]; rfl
    · rw [if_pos (.inl rfl)]; rfl
  | a :: bl, b, h, hb => by
    have ha := h a List.mem_cons_self
    have hs : stepB b (f a) = -1 ∨ stepB b (f a) = t := by unfold stepB; split <;> omega
    rw [List.foldl_cons, best_fold ht bl _ (fun x hx => h x (List.mem_cons_of_mem _ hx)) hs]
    have he : stepB b (f a) = t ↔ b = t ∨ 0 ≤ f a := by unfold stepB; split <;> omega
    refine if_cong ?_
    rw [he]
    constructor
    · rintro ((h | h) | ⟨x, hx, h⟩)
      · exact .inl h
      · exact .inr ⟨a, List.mem_cons_self, h⟩
      · exact .inr ⟨x, List.mem_cons_of_mem _ hx, h⟩
    · rintro (h8 | ⟨x, hx, h9⟩)
      · exact .inl (.inl h8)
      · rcases List.mem_cons.1 hx with e | hx
        · subst e; exact .inl (.inr h9)
        · exact .inr ⟨x, hx, h9⟩
theorem best_same {f : Int → Int} {t : Int} {bl : List Int} (ht : 0 ≤ t) (h : ∀ x ∈ bl, f x = -1 ∨ f x = t) : bestL f bl = if ∃ x ∈ bl, 0 ≤ f x then t else -1 := by
  unfold bestL
  rw [best_fold ht bl (-1) h (.inl rfl)]
  exact if_cong ⟨fun hh => hh.resolve_left (by omega), .inr⟩
theorem best_ge {f : Int → Int} : ∀ (bl : List Int) (b : Int), -1 ≤ b → -1 ≤ bl.foldl (fun b x => stepB b (f x)) b
  | [], b, h => h
  | a :: bl, b, h => best_ge bl _ (by show -1 ≤ stepB b (f a); unfold stepB; split <;> omega)

/-- the game of one cop -/
def one (l : List Ed) (n : Nat) : Game := ⟨n, n, ballB l, fun p r => p == r, ballB l⟩
def afterV (T : Nat → Nat → Int) (bl : Nat → List Int) (q r : Nat) : Int := if q = r then 0 else worstL (fun x => T q x.toNat) (bl r)
def ballL (l : List Ed) (n x : Nat) : List Int := nw (ballB l x) n
theorem after_iff {l : List Ed} {n t q r : Nat} : 0 ≤ afterV (tmTo (one l n) t) (ballL l n) q r ↔ lostOf (one l n) (win (one l n) t) q r = true := by
  rw [lost_iff]
  unfold afterV
  by_cases h : q = r
  · rw [if_pos h]
    exact ⟨fun _ => .inl (by show (q == r) = true; simpa using h), fun _ => by omega⟩
  · rw [if_neg h, worst_iff]
    constructor
    · intro hb
      right
      intro x hx hxb
      exact tm_iff.1 (by have := hb (x : Int) (mem_nw.2 ⟨x, hx, hxb, rfl⟩); simpa using this)
    · rintro (hh | hh)
      · exact absurd (by simpa [one] using hh) h
      · intro b hb
        obtain ⟨x, hx, hxb, rfl⟩ := mem_nw.1 hb
        simpa using tm_iff.2 (hh x hx hxb)
theorem after_le {l : List Ed} {n t q r : Nat} : afterV (tmTo (one l n) t) (ballL l n) q r ≤ t := by
  unfold afterV
  split
  · omega
  · by_cases h : 0 ≤ worstL (fun x => tmTo (one l n) t q x.toNat) (ballL l n r)
    · rw [worst_le h]
      exact ⟨by omega, fun b _ => (tm_small t q b.toNat).2⟩
    · rw [worst_neg h]; omega
theorem after_eq {l : List Ed} {n t c q r : Nat} (hq : q < n) (hm : ballB l c q = true) (hw : win (one l n) t c r = false) (h : 0 ≤ afterV (tmTo (one l n) t) (ballL l n) q r) : afterV (tmTo (one l n) t) (ballL l n) q r = t := by
  have hle := after_le (l := l) (n := n) (t := t) (q := q) (r := r)
  apply Classical.byContradiction
  intro hne
  obtain ⟨j, rfl⟩ : ∃ j, t = j + 1 := ⟨t - 1, by omega⟩
  have hlt : afterV (tmTo (one l n) (j + 1)) (ballL l n) q r ≤ j := by omega
  have hl : lostOf (one l n) (win (one l n) j) q r = true := by
    rw [lost_iff]
    unfold afterV at h hlt
    by_cases e : q = r
    · left; show (q == r) = true; simpa using e
    · right
      rw [if_neg e] at h hlt
      have h2 := (worst_le h).1 hlt
      have h3 := worst_iff.1 h
      intro x hx hxb
      have hm2 : (x : Int) ∈ ballL l n r := mem_nw.2 ⟨x, hx, hxb, rfl⟩
      have h4 := h2.2 _ hm2
      have h5 := h3 _ hm2
      simp only [Int.toNat_natCast] at h4 h5
      exact (tm_in (tm_iff.1 h5)).2.2 j (by omega) (by omega)
  have := win_succ.2 (.inr ⟨q, hq, hm, hl⟩)
  rw [hw] at this; cases this
def bestV (l : List Ed) (n t c r : Nat) : Int := bestL (fun q => afterV (tmTo (one l n) t) (ballL l n) q.toNat r) (ballL l n c)
/-- where there is no time yet, the next round's -/
theorem best_next {l : List Ed} {n t c r : Nat} (hw : win (one l n) t c r = false) : bestV l n t c r = if win (one l n) (t + 1) c r = true then (t : Int) else -1 := by
  unfold bestV
  rw [best_same (t := (t : Int)) (by omega) ?_]
  · refine if_cong ?_
    rw [win_succ]
    constructor
    · rintro ⟨x, hx, h⟩
      obtain ⟨q, hq, hqb, rfl⟩ := mem_nw.1 hx
      exact .inr ⟨q, hq, hqb, after_iff.1 (by simpa using h)⟩
    · rintro (h | ⟨q, hq, hm, hl⟩)
      · rw [hw] at h; cases h
      · exact ⟨(q : Int), mem_nw.2 ⟨q, hq, hm, rfl⟩, by simpa using after_iff.2 hl⟩
  · intro x hx
    obtain ⟨q, hq, hqb, rfl⟩ := mem_nw.1 hx
    simp only [Int.toNat_natCast]
    by_cases h : 0 ≤ afterV (tmTo (one l n) t) (ballL l n) q r
    · exact .inr (after_eq hq hqb hw h)
    · left
      unfold afterV at *
      split
      · rename_i e; rw [if_pos e] at h; omega
      · rename_i e; rw [if_neg e] at h; exact worst_neg h
theorem next_yes {l : List Ed} {n t c r : Nat} (h1 : tmTo (one l n) t c r < 0) (h2 : 0 ≤ bestV l n t c r) : tmTo (one l n) (t + 1) c r = bestV l n t c r + 1 ∧ win (one l n) t c r = false ∧ win (one l n) (t + 1) c r = true := by
  have hw := tm_lt.1 h1
  have hb := best_next hw
  have hw1 : win (one l n) (t + 1) c r = true := by
    apply Classical.byContradiction
    intro hn
    rw [hb, if_neg hn] at h2; omega
  rw [hb, if_pos hw1, tm_new hw hw1]
  exact ⟨by omega, hw, hw1⟩
theorem next_no {l : List Ed} {n t c r : Nat} (h : ¬ (tmTo (one l n) t c r < 0 ∧ 0 ≤ bestV l n t c r)) : tmTo (one l n) (t + 1) c r = tmTo (one l n) t c r ∧ (win (one l n) (t + 1) c r = true → win (one l n) t c r = true) := by
  by_cases h1 : tmTo (one l n) t c r < 0
  · have hw := tm_lt.1 h1
    have hb := best_next hw
    have hw1 : win (one l n) (t + 1) c r = false := by
      cases hx : win (one l n) (t + 1) c r with
      | false => rfl
      | true => rw [if_pos hx] at hb; exact absurd ⟨h1, by omega⟩ h
    rw [tm_neg hw1, tm_neg hw]
    exact ⟨rfl, fun hh => by rw [hw1] at hh; cases hh⟩
  · have hw : win (one l n) t c r = true := tm_iff.1 (by omega)
    exact ⟨tm_old hw, fun _ => hw⟩
end Go.Proofs.Ytpeobnmfndelhaa.times

/- The contract of the program's chaseIn: the game of one cop. -/
namespace Go.Proofs.Ytpeobnmfndelhaa.times
open Go.RowKit P2 words edges ints good adjs fns sets rets covs bitsI bags gridr mids grid reps apps
set_option linter.unusedVariables false

theorem OwnG.kept_c {w w' : World} {B O : Nat} {t : TypeId} {v : Value} {us : List Value} {rows : List (List Int)} {cs : Array Value} (h : OwnG w B v us rows) (hO : Blk w O t cs) (h1 : 25 ≠ t) (h2 : 3 ≠ t) (hg : w.grownBy w' (some O)) : OwnG w' B v us rows :=
  ⟨h.1.kept hg (.inr (own_ne h.1 hO h1)), fun i u r hu hr => (h.2.1 i u r hu hr).kept hg (.inr (own_ne (h.2.1 i u r hu hr) hO h2)), h.2.2⟩
theorem gset1 (w : World) (g j : Nat) (u : Value) : w.grownBy (w.setCell ⟨g, j, none⟩ u) (some g) := gset (World.grownBy.refl w (some g)) j u
/-- the first k places -/
def pwK (k : Nat) : List Nat := (List.range k).map (2 ^ ·)
theorem pwK_len (k : Nat) : (pwK k).length = k := by simp [pwK]
theorem pwK_succ (k : Nat) : pwK (k + 1) = pwK k ++ [2 ^ k] := by simp [pwK, List.range_succ]
theorem cellsU_app (l m : List Nat) : cellsU (l ++ m) = cellsU l ++ cellsU m := by simp [cellsU]
theorem pwK_all (l : List Ed) (n : Nat) : pwK n = codesL (one l n).P (one l n).n (one l n).tk := by
  unfold pwK codesL
  refine List.map_congr_left fun p hp => ?_
  have hpn := List.mem_range.1 hp
  rw [← num_one hpn]
  refine num_ext fun z _ => ?_
  show decide (z = p) = (p == z)
  rw [Bool.eq_iff_iff, decide_eq_true_iff, beq_iff_eq]
  exact eq_comm
def mvK (l : List Ed) (n k : Nat) : List (List Int) := (List.range k).map (ballL l n)
theorem mvK_len (l : List Ed) (n k : Nat) : (mvK l n k).length = k := by simp [mvK]
theorem mvK_succ (l : List Ed) (n k : Nat) : mvK l n (k + 1) = mvK l n k ++ [ballL l n k] := by simp [mvK, List.range_succ]
theorem mvK_at {l : List Ed} {n k p : Nat} (h : p < k) : (mvK l n k)[p]? = some (ballL l n p) := by simp [mvK, h]
theorem clo_nodes {n : Nat} {l : List Ed} (hg : P2.Good (n : Int) l) {x : Nat} (hx : x < n) (hn : n ≤ 8) : nw (bitB (cloB l x)) 8 = ballL l n x := by
  unfold ballL
  rw [nw_more hn (fun k h1 _ => by
    unfold bitB
    rw [cloB_bit hg]
    cases ha : adj l (x : Int) (k : Int) with
    | false => simp; omega
    | true => have := (adj_node hg ha).2; omega)]
  exact nw_congr fun k _ => by unfold bitB; rw [cloB_bit hg]; rfl
theorem moves_one (l : List Ed) (n : Nat) : MovesOf (one l n) (mvK l n n) := by
  refine ⟨mvK_len l n n, fun p mvs h => ?_⟩
  have hp : p < n := by have := (List.getElem?_eq_some_iff.1 h).1; rwa [mvK_len] at this
  rw [mvK_at hp] at h
  cases h
  unfold ballL
  refine ⟨fun q hq => ?_, fun q hq => ?_⟩
  · obtain ⟨z, hz, _, rfl⟩ := mem_nw.1 hq
    show 0 ≤ (z : Int) ∧ (z : Int) < (n : Int)
    omega
  · rw [mem_nw]
    show ballB l p q = true ↔ _
    constructor
    · exact fun hb => ⟨q, hq, hb, rfl⟩
    · rintro ⟨z, _, hz, e⟩
      obtain rfl : q = z := by omega
      exact hz
theorem mvK_short {l : List Ed} {n : Nat} (hn : n ≤ 8) : ∀ mvs ∈ mvK l n n, mvs.length ≤ 200 := fun mvs h => by
  obtain ⟨p, _, rfl⟩ := List.mem_map.1 h
  have : (ballL l n p).length ≤ n := nw_len _ _
  omega

/-- a slice of words lies in another block than a game -/
theorem nums_ne {w : World} {A : Option Addr} {n c O : Nat} {xs : List Nat} {a1 a2 a3 a4 : Option Addr} {n1 n2 n3 n4 c1 c2 c3 c4 : Nat} {t : TypeId} (h : Nums w (.slice A n c) xs) (hb : Blk w O t #[.slice a1 n1 c1, .slice a2 n2 c2, .slice a3 n3 c3, .slice a4 n4 c4]) :
    0 < xs.length → ∀ g o, A = some ⟨g, o, none⟩ → g ≠ O := fun h0 g o e e2 => by
  subst e
  subst e2
  obtain ⟨_, _, hf, hx⟩ := h.form
  obtain ⟨x, hx0⟩ : ∃ x, xs[0]? = some x := ⟨_, List.getElem?_eq_getElem h0⟩
  cases hf
  obtain ⟨g', o', e3, hc⟩ := hx 0 x hx0
  cases e3
  rw [hb.cell (o + 0)] at hc
  match o, hc with
  | 0, hc => simp at hc
  | 1, hc => simp at hc
  | 2, hc => simp at hc
  | 3, hc => simp at hc
  | o + 4, hc => simp at hc
theorem nums_grown {w w' : World} {A : Option Addr} {n c O : Nat} {xs : List Nat} (h : Nums w (.slice A n c) xs) (hg : w.grownBy w' (some O)) (hne : 0 < xs.length → ∀ g o, A = some ⟨g, o, none⟩ → g ≠ O) : Nums w' (.slice A n c) xs := by
  rcases Nat.eq_zero_or_pos xs.length with h0 | h0
  · obtain ⟨A', c', e, _⟩ := h
    exact ⟨A', c', e, fun hh => by omega⟩
  · refine h.grown hg fun g o k c' e hh => ?_
    cases e
    exact hne h0 g o rfl (by simpa using hh)
end Go.Proofs.Ytpeobnmfndelhaa.times

/- To which lists cops can move: plain mathematics. It imports nothing of the program. -/
namespace Go.Proofs.Ytpeobnmfndelhaa.lists
set_option linter.unusedVariables false

/-- the nodes of a list whose indices are not used -/
def restL (L : List Nat) (c : Nat) : List Nat := ((List.range L.length).filter fun i => !c.testBit i).map fun i => L.getD i 0
def canN (b : Nat → Nat → Bool) : List Nat → List Nat → Nat → Bool
  | [], _, _ => true
  | x :: cs, L, c => (List.range L.length).any fun i => !c.testBit i && (b x (L.getD i 0) && canN b cs L (c ||| 2 ^ i))
def fits (b : Nat → Nat → Bool) : List Nat → List Nat → Prop
  | [], [] => True
  | x :: cs, y :: t => b x y = true ∧ fits b cs t
  | _, _ => False
theorem bit_or (c i j : Nat) : (c ||| 2 ^ i).testBit j = (c.testBit j || decide (i = j)) := by
  rw [Nat.testBit_or, Nat.testBit_two_pow]
theorem rest_take {L : List Nat} {c i : Nat} (hi : i < L.length) (hc : c.testBit i = false) : (restL L c).Perm (L.getD i 0 :: restL L (c ||| 2 ^ i)) := by
  have hn : ((List.range L.length).filter fun i => !c.testBit i).Nodup := List.Pairwise.filter _ List.nodup_range
  have hm : i ∈ (List.range L.length).filter fun i => !c.testBit i := List.mem_filter.2 ⟨List.mem_range.2 hi, by rw [hc]; rfl⟩
  have h := List.perm_cons_erase hm
  rw [List.Nodup.erase_eq_filter hn, List.filter_filter] at h
  have h2 := h.map fun i => L.getD i 0
  rw [List.map_cons] at h2
  have e : (List.range L.length).filter (fun a => (a != i) && !c.testBit a) = (List.range L.length).filter fun j => !(c ||| 2 ^ i).testBit j := by
    refine List.filter_congr fun j _ => ?_
    rw [bit_or]
    by_cases hij : i = j
    · subst hij; simp
    · have : (j != i) = true := by simp; exact fun e => hij e.symm
      rw [this]; simp [hij]
  rw [e] at h2
  exact h2
theorem can_iff {b : Nat → Nat → Bool} {L : List Nat} : ∀ (cs : List Nat) (c : Nat), canN b cs L c = true ↔ ∃ t r, fits b cs t ∧ (t ++ r).Perm (restL L c)
  | [], c => ⟨fun _ => ⟨[], restL L c, trivial, List.Perm.refl _⟩, fun _ => rfl⟩
  | x :: cs, c => by
    show ((List.range L.length).any _) = true ↔ _
    rw [List.any_eq_true]
    constructor
    · rintro ⟨i, hi, h⟩
      rw [Bool.and_eq_true, Bool.and_eq_true] at h
      obtain ⟨h1, h2, h3⟩ := h
      obtain ⟨t, r, ht, hp⟩ := (can_iff cs _).1 h3
      exact ⟨L.getD i 0 :: t, r, ⟨h2, ht⟩, (List.Perm.cons _ hp).trans (rest_take (List.mem_range.1 hi) (by simpa using h1)).symm⟩
    · rintro ⟨t, r, ht, hp⟩
      cases t with
      | nil => exact absurd ht (by simp [fits])
      | cons y t =>
        have hy : y ∈ restL L c := hp.mem_iff.1 List.mem_cons_self
        obtain ⟨i, hi, rfl⟩ := List.mem_map.1 hy
        obtain ⟨h1, h2⟩ := List.mem_filter.1 hi
        have h3 : c.testBit i = false := by simpa using h2
        refine ⟨i, h1, ?_⟩
        rw [Bool.and_eq_true, Bool.and_eq_true]
        exact ⟨h2, ht.1, (can_iff cs _).2 ⟨t, r, ht.2, (List.perm_cons _).1 (hp.trans (rest_take (List.mem_range.1 h1) h3))⟩⟩
theorem fits_len {b : Nat → Nat → Bool} : ∀ {cs t : List Nat}, fits b cs t → t.length = cs.length
  | [], [], _ => rfl
  | x :: cs, y :: t, h => by simp [fits_len h.2]
  | [], y :: t, h => absurd h (by simp [fits])
  | x :: cs, [], h => absurd h (by simp [fits])
theorem rest_zero (L : List Nat) : restL L 0 = L := by
  unfold restL
  rw [List.filter_eq_self.2 (fun i _ => by simp)]
  apply List.ext_getElem?
  intro i
  by_cases h : i < L.length
  · simp [h]
  · rw [List.getElem?_eq_none (by simp; omega), List.getElem?_eq_none (by omega)]
theorem can_move {b : Nat → Nat → Bool} {cs L : List Nat} (h : L.length = cs.length) : canN b cs L 0 = true ↔ ∃ t, fits b cs t ∧ t.Perm L := by
  rw [can_iff, rest_zero]
  constructor
  · rintro ⟨t, r, ht, hp⟩
    have h1 := hp.length_eq
    rw [List.length_append, fits_len ht, h] at h1
    have : r = [] := List.length_eq_zero_iff.1 (by omega)
    subst this
    rw [List.append_nil] at hp
    exact ⟨t, ht, hp⟩
  · rintro ⟨t, ht, hp⟩
    exact ⟨t, [], ht, by rw [List.append_nil]; exact hp⟩

/-- the model's lists of moves, one cop after the other -/
def tupF (B : Nat → List Nat) (now : List (List Nat)) (c : Nat) : List (List Nat) := now.flatMap fun t => (B c).map fun y => t ++ [y]
theorem tup_mem {b : Nat → Nat → Bool} {B : Nat → List Nat} : ∀ (cs : List Nat) (now : List (List Nat)) (t : List Nat), (∀ c ∈ cs, ∀ y, y ∈ B c ↔ b c y = true) → (t ∈ cs.foldl (tupF B) now ↔ ∃ t0 ∈ now, ∃ t1, t = t0 ++ t1 ∧ fits b cs t1)
  | [], now, t, h => by
    constructor
    · intro ht; exact ⟨t, ht, [], by simp, trivial⟩
    · rintro ⟨t0, h0, t1, rfl, h1⟩
      cases t1 with
      | nil => simpa using h0
      | cons y t1 => exact absurd h1 (by simp [fits])
  | c :: cs, now, t, h => by
    rw [List.foldl_cons, tup_mem cs _ t fun c hc => h c (List.mem_cons_of_mem _ hc)]
    constructor
    · rintro ⟨t0, h0, t1, rfl, h1⟩
      obtain ⟨u, hu, h2⟩ := List.mem_flatMap.1 h0
      obtain ⟨y, hy, rfl⟩ := List.mem_map.1 h2
      exact ⟨u, hu, y :: t1, by simp, (h c List.mem_cons_self y).1 hy, h1⟩
    · rintro ⟨u, hu, t1, rfl, h1⟩
      cases t1 with
      | nil => exact absurd h1 (by simp [fits])
      | cons y t1 => exact ⟨u ++ [y], List.mem_flatMap.2 ⟨u, hu, List.mem_map.2 ⟨y, (h c List.mem_cons_self y).2 h1.1, rfl⟩⟩, t1, by simp, h1.2⟩
theorem tup_len {B : Nat → List Nat} {M : Nat} : ∀ (cs : List Nat) (now : List (List Nat)), (∀ c ∈ cs, (B c).length ≤ M) → (cs.foldl (tupF B) now).length ≤ now.length * M ^ cs.length
  | [], now, h => by simp
  | c :: cs, now, h => by
    rw [List.foldl_cons]
    have h1 := tup_len cs (tupF B now c) fun c hc => h c (List.mem_cons_of_mem _ hc)
    have h2 : (tupF B now c).length ≤ now.length * M := flatMap_le now fun a _ => by rw [List.length_map]; exact h c List.mem_cons_self
    rw [List.length_cons, Nat.pow_succ, Nat.mul_comm (M ^ _) M, ← Nat.mul_assoc]
    exact Nat.le_trans h1 (Nat.mul_le_mul_right _ h2)

/-- the order of lists of the same length -/
def lexN : List Nat → List Nat → Prop
  | x :: a, y :: b => x < y ∨ x = y ∧ lexN a b
  | _, _ => False
theorem lex_irr : ∀ a : List Nat, ¬ lexN a a
  | [] => fun h => h
  | x :: a => fun h => by
    rcases h with h | h
    · omega
    · exact lex_irr a h.2
theorem lex_asym : ∀ {a b : List Nat}, lexN a b → ¬ lexN b a
  | [], _, h => fun _ => h
  | x :: a, [], h => fun _ => h
  | x :: a, y :: b, h => fun h2 => by
    rcases h with h | ⟨rfl, h⟩
    · rcases h2 with h2 | h2 <;> omega
    · rcases h2 with h2 | h2
      · omega
      · exact lex_asym h h2.2
theorem lex_trans : ∀ {a b c : List Nat}, lexN a b → lexN b c → lexN a c
  | [], _, _, h, _ => absurd h (by simp [lexN])
  | x :: a, [], _, h, _ => absurd h (by simp [lexN])
  | x :: a, y :: b, [], _, h => absurd h (by simp [lexN])
  | x :: a, y :: b, z :: c, h, h2 => by
    rcases h with h | ⟨rfl, h⟩
    · rcases h2 with h2 | ⟨rfl, h2⟩
      · exact .inl (by omega)
      · exact .inl h
    · rcases h2 with h2 | ⟨rfl, h2⟩
      · exact .inl h2
      · exact .inr ⟨rfl, lex_trans h h2⟩
theorem lex_tri : ∀ {a b : List Nat}, a.length = b.length → a ≠ b → ¬ lexN a b → lexN b a
  | [], [], _, h, _ => absurd rfl h
  | x :: a, y :: b, hl, hne, h => by
    by_cases e : x = y
    · subst e
      exact .inr ⟨rfl, lex_tri (by simpa using hl) (fun e => hne (by rw [e])) fun hh => h (.inr ⟨rfl, hh⟩)⟩
    · exact .inl (by have : ¬ x < y := fun hh => h (.inl hh); omega)
  | [], y :: b, hl, _, _ => by simp at hl
  | x :: a, [], hl, _, _ => by simp at hl
def Lex (Ls : List (List Nat)) : Prop := Ls.Pairwise lexN
theorem lists_lex (n : Nat) : ∀ k f, Lex (listsN n k f)
  | 0, f => List.pairwise_singleton _ _
  | k + 1, f => by
    show List.Pairwise lexN ((upL f n).flatMap fun x => (listsN n k x).map (x :: ·))
    rw [List.pairwise_flatMap]
    refine ⟨fun x _ => List.pairwise_map.2 ((lists_lex n k x).imp fun h => .inr ⟨rfl, h⟩), ?_⟩
    refine (List.pairwise_lt_range' (s := f) (n := n - f) : (upL f n).Pairwise (· < ·)).imp fun {x y} hxy a ha b hb => ?_
    obtain ⟨a', _, rfl⟩ := List.mem_map.1 ha
    obtain ⟨b', _, rfl⟩ := List.mem_map.1 hb
    exact .inl hxy
theorem lex_eq : ∀ {A B : List (List Nat)}, Lex A → Lex B → (∀ x, x ∈ A ↔ x ∈ B) → A = B
  | [], [], _, _, _ => rfl
  | [], b :: B, _, _, h => absurd ((h b).2 List.mem_cons_self) (by simp)
  | a :: A, [], _, _, h => absurd ((h a).1 List.mem_cons_self) (by simp)
  | a :: A, b :: B, hA, hB, h => by
    have h1 := List.pairwise_cons.1 hA
    have h2 := List.pairwise_cons.1 hB
    have e : a = b := by
      apply Classical.byContradiction
      intro hne
      have ha : a ∈ B := (List.mem_cons.1 ((h a).1 List.mem_cons_self)).resolve_left hne
      have hb : b ∈ A := (List.mem_cons.1 ((h b).2 List.mem_cons_self)).resolve_left fun e => hne e.symm
      exact lex_asym (h1.1 b hb) (h2.1 a ha)
    subst e
    rw [lex_eq h1.2 h2.2 fun x => ⟨fun hx => (List.mem_cons.1 ((h x).1 (List.mem_cons_of_mem _ hx))).resolve_left fun e => by subst e; exact lex_irr _ (h1.1 _ hx),
      fun hx => (List.mem_cons.1 ((h x).2 (List.mem_cons_of_mem _ hx))).resolve_left fun e => by subst e; exact lex_irr _ (h2.1 _ hx)⟩]
def upN (L : List Nat) : Prop := L.Pairwise (· ≤ ·)
theorem up_eq {A B : List Nat} (hA : upN A) (hB : upN B) (h : A.Perm B) : A = B := h.eq_of_pairwise (fun a b _ _ h1 h2 => Nat.le_antisymm h1 h2) hA hB
theorem lists_up {n : Nat} : ∀ (k f : Nat) (L : List Nat), L ∈ listsN n k f → upN L
  | 0, f, L, h => by
    have : L = [] := by simpa [listsN] using h
    subst this
    exact List.Pairwise.nil
  | k + 1, f, L, h => by
    obtain ⟨x, hx, h2⟩ := List.mem_flatMap.1 (show L ∈ (upL f n).flatMap _ from h)
    obtain ⟨M, hM, rfl⟩ := List.mem_map.1 h2
    exact List.pairwise_cons.2 ⟨fun y hy => ((lists_mem k x M hM).2 y hy).1, lists_up k x M hM⟩
theorem lists_has {n : Nat} : ∀ (k f : Nat) (L : List Nat), L.length = k → upN L → (∀ x ∈ L, f ≤ x ∧ x < n) → L ∈ listsN n k f
  | 0, f, L, h, _, _ => by
    have : L = [] := List.length_eq_zero_iff.1 h
    subst this
    exact List.mem_cons_self
  | k + 1, f, L, h, hu, hb => by
    cases L with
    | nil => simp at h
    | cons x L =>
      have h1 := List.pairwise_cons.1 hu
      refine List.mem_flatMap.2 ⟨x, upL_mem.2 (hb x List.mem_cons_self), List.mem_map.2 ⟨L, ?_, rfl⟩⟩
      exact lists_has k x L (by simpa using h) h1.2 fun y hy => ⟨h1.1 y hy, (hb y (List.mem_cons_of_mem _ hy)).2⟩
theorem lists_iff {n k : Nat} {L : List Nat} : L ∈ listsN n k 0 ↔ L.length = k ∧ upN L ∧ ∀ x ∈ L, x < n :=
  ⟨fun h => ⟨(lists_mem k 0 L h).1, lists_up k 0 L h, fun x hx => ((lists_mem k 0 L h).2 x hx).2⟩, fun ⟨h1, h2, h3⟩ => lists_has k 0 L h1 h2 fun x hx => ⟨Nat.zero_le _, h3 x hx⟩⟩
/-- the lists to which cops can move -/
def movesN (b : Nat → Nat → Bool) (n : Nat) (cs : List Nat) : List (List Nat) := (listsN n cs.length 0).filter fun L => canN b cs L 0
theorem moves_lex (b : Nat → Nat → Bool) (n : Nat) (cs : List Nat) : Lex (movesN b n cs) := List.Pairwise.filter _ (lists_lex n _ 0)
def sortN (t : List Nat) : List Nat := t.mergeSort
theorem sort_perm (t : List Nat) : (sortN t).Perm t := List.mergeSort_perm _ _
theorem sort_up (t : List Nat) : upN (sortN t) := by
  have h := List.pairwise_mergeSort (le := fun a b : Nat => decide (a ≤ b)) (fun a b c h1 h2 => by simp at *; omega) (fun a b => by simp; omega) t
  exact h.imp fun h => by simpa using h
theorem sort_is {t L : List Nat} (h : L.Perm t) (hu : upN L) : L = sortN t := up_eq hu (sort_up t) (h.trans (sort_perm t).symm)
theorem fits_lt {b : Nat → Nat → Bool} {n : Nat} : ∀ {cs t : List Nat}, (∀ c ∈ cs, ∀ y, b c y = true → y < n) → fits b cs t → ∀ y ∈ t, y < n
  | [], [], _, _, y, hy => by simp at hy
  | x :: cs, z :: t, h, hf, y, hy => by
    rcases List.mem_cons.1 hy with rfl | hy
    · exact h x List.mem_cons_self _ hf.1
    · exact fits_lt (fun c hc => h c (List.mem_cons_of_mem _ hc)) hf.2 y hy
  | [], z :: t, _, hf, _, _ => absurd hf (by simp [fits])
  | x :: cs, [], _, hf, _, _ => absurd hf (by simp [fits])
/-- the model's lists are the program's -/
theorem moves_eq {b : Nat → Nat → Bool} {B : Nat → List Nat} {n : Nat} {cs : List Nat} {out : List (List Nat)} (hb : ∀ c ∈ cs, ∀ y, y ∈ B c ↔ b c y = true) (hn : ∀ c ∈ cs, ∀ y, b c y = true → y < n)
    (hl : Lex out) (ho : ∀ y, y ∈ out ↔ ∃ t ∈ cs.foldl (tupF B) [[]], y = sortN t) : out = movesN b n cs := by
  refine lex_eq hl (moves_lex b n cs) fun y => ?_
  rw [ho]
  unfold movesN
  rw [List.mem_filter, lists_iff]
  constructor
  · rintro ⟨t, ht, rfl⟩
    obtain ⟨t0, h0, t1, rfl, h1⟩ := (tup_mem cs _ t hb).1 ht
    have : t0 = [] := by simpa using h0
    subst this
    rw [List.nil_append]
    have hp := sort_perm t1
    have hlen : (sortN t1).length = cs.length := hp.length_eq.trans (fits_len h1)
    exact ⟨⟨hlen, sort_up _, fun x hx => fits_lt hn h1 x (hp.mem_iff.1 hx)⟩, (can_move hlen).2 ⟨t1, h1, hp.symm⟩⟩
  · rintro ⟨⟨hlen, hu, _⟩, hc⟩
    obtain ⟨t, ht, hp⟩ := (can_move hlen).1 hc
    exact ⟨t, (tup_mem cs _ t hb).2 ⟨[], List.mem_cons_self, t, by simp, ht⟩, sort_is hp.symm hu⟩
/-- M has x and what Ls has, in order -/
def PutL (Ls : List (List Nat)) (x : List Nat) (M : List (List Nat)) : Prop := Lex M ∧ (∀ y, y ∈ M ↔ y = x ∨ y ∈ Ls) ∧ M.length ≤ Ls.length + 1
theorem PutL.same {Ls : List (List Nat)} {x : List Nat} (ha : Lex Ls) (hx : x ∈ Ls) : PutL Ls x Ls :=
  ⟨ha, fun y => ⟨.inr, fun h => by rcases h with rfl | h; exact hx; exact h⟩, by omega⟩
theorem PutL.new {Ls : List (List Nat)} {x : List Nat} {k : Nat} (hk : k ≤ Ls.length) (ha : Lex Ls) (h1 : ∀ j y, j < k → Ls[j]? = some y → lexN y x) (h2 : ∀ y, Ls[k]? = some y → lexN x y) : PutL Ls x (Ls.take k ++ x :: Ls.drop k) := by
  have hd : ∀ y ∈ Ls.drop k, lexN x y := fun y hy => by
    obtain ⟨j, hj⟩ := List.getElem?_of_mem hy
    rw [List.getElem?_drop] at hj
    rcases Nat.eq_zero_or_pos j with rfl | hj0
    · exact h2 y hj
    · have hlt : k + j < Ls.length := (List.getElem?_eq_some_iff.1 hj).1
      obtain ⟨z, hz⟩ : ∃ z, Ls[k]? = some z := ⟨_, List.getElem?_eq_getElem (by omega)⟩
      have hzy : lexN z y := by
        have h3 := List.pairwise_iff_getElem.1 ha k (k + j) (by omega) hlt (by omega)
        rw [List.getElem?_eq_getElem (by omega)] at hz
        rw [List.getElem?_eq_getElem hlt] at hj
        cases hz; cases hj
        exact h3
      exact lex_trans (h2 z hz) hzy
  have ht : ∀ y ∈ Ls.take k, lexN y x := fun y hy => by
    obtain ⟨j, hj⟩ := List.getElem?_of_mem hy
    have hjk : j < k := by
      have := (List.getElem?_eq_some_iff.1 hj).1
      rw [List.length_take] at this; omega
    rw [List.getElem?_take_of_lt hjk] at hj
    exact h1 j y hjk hj
  refine ⟨?_, fun y => ?_, by simp; omega⟩
  · show List.Pairwise lexN _
    rw [List.pairwise_append]
    refine ⟨List.Pairwise.sublist (List.take_sublist _ _) ha, List.pairwise_cons.2 ⟨hd, List.Pairwise.sublist (List.drop_sublist _ _) ha⟩, fun a hA b hB => ?_⟩
    rcases List.mem_cons.1 hB with rfl | hB
    · exact ht a hA
    · exact lex_trans (ht a hA) (hd b hB)
  · rw [List.mem_append, List.mem_cons]
    constructor
    · rintro (h | h | h)
      · exact .inr (List.mem_of_mem_take h)
      · exact .inl h
      · exact .inr (List.mem_of_mem_drop h)
    · rintro (h | h)
      · exact .inr (.inl h)
      · rw [← List.take_append_drop k Ls] at h
        rcases List.mem_append.1 h with h | h
        · exact .inl h
        · exact .inr (.inr h)
/-- the places of the lists to which cops can move -/
theorem moves_map {b : Nat → Nat → Bool} {n : Nat} {cs : List Nat} : movesN b n cs = ((List.range (listsN n cs.length 0).length).filter fun q => canN b cs ((listsN n cs.length 0).getD q []) 0).map fun q => (listsN n cs.length 0).getD q [] := by
  have h : listsN n cs.length 0 = (List.range (listsN n cs.length 0).length).map fun q => (listsN n cs.length 0).getD q [] := by
    apply List.ext_getElem?
    intro i
    by_cases h : i < (listsN n cs.length 0).length
    · simp [h]
    · rw [List.getElem?_eq_none (by omega), List.getElem?_eq_none (by simp; omega)]
  unfold movesN
  conv => lhs; rw [h]
  rw [List.filter_map]
  rfl
theorem lex_nodup {Ls : List (List Nat)} (h : Lex Ls) {i j : Nat} {x : List Nat} (hi : Ls[i]? = some x) (hj : Ls[j]? = some x) : i = j := by
  obtain ⟨hi1, hi2⟩ := List.getElem?_eq_some_iff.1 hi
  obtain ⟨hj1, hj2⟩ := List.getElem?_eq_some_iff.1 hj
  apply Classical.byContradiction
  intro hne
  rcases Nat.lt_or_gt_of_ne hne with h1 | h1
  · have := List.pairwise_iff_getElem.1 h i j hi1 hj1 h1
    rw [hi2, hj2] at this
    exact lex_irr _ this
  · have := List.pairwise_iff_getElem.1 h j i hj1 hi1 h1
    rw [hi2, hj2] at this
    exact lex_irr _ this
end Go.Proofs.Ytpeobnmfndelhaa.lists

/- An element put into a row by three appends: what the walk wants. -/
namespace Go.Proofs.Ytpeobnmfndelhaa.trip
open Go.RowKit P2 words edges ints good adjs fns sets apps covs neigh
set_option linter.unusedVariables false

theorem one_readsV {w : World} {g : Nat} {t : TypeId} {a : Value} (h : Blk w g t #[a]) : Reads w 1 (.slice (some ⟨g, 0, none⟩) 1 1) 1 [a] := by
  refine ⟨_, _, rfl, fun _ => ⟨g, 0, rfl, by omega, fun j u hu => ?_⟩⟩
  rw [Nat.zero_add]
  refine (h.cell j).trans ?_
  rw [← hu]
  match j with
  | 0 => rfl
  | j + 1 => simp
theorem rd1_someV {W : World} {g o c k n : Nat} {xs : List Value} (h : Reads W 1 (.slice (if c = k then some ⟨g, o, none⟩ else (some (⟨g, o, none⟩ : Addr)).map (·.add k)) (n - k) (c - k)) (n - k) xs) :
    Reads W 1 (.slice (if c = k then some ⟨g, o, none⟩ else some ⟨g, o + k, none⟩) (n - k) (c - k)) (n - k) xs := by
  simpa [apps.addr_add] using h
theorem rd1_zeroV {W : World} {g c k n : Nat} {xs : List Value} (h : Reads W 1 (.slice (if c = k then some ⟨g, 0, none⟩ else (some (⟨g, 0, none⟩ : Addr)).map (·.add k)) (n - k) (c - k)) (n - k) xs) :
    Reads W 1 (.slice (if c = k then some ⟨g, 0, none⟩ else some ⟨g, k, none⟩) (n - k) (c - k)) (n - k) xs := by
  simpa [apps.addr_add] using h
theorem reads_cap {W : World} {A : Option Addr} {n c k : Nat} {xs : List Value} (h : Reads W 1 (.slice A n c) n xs) (hk : k ≤ n) : k ≤ c := by
  rcases Nat.eq_zero_or_pos n with h0 | h0
  · omega
  · obtain ⟨A', c', e, hx⟩ := h
    cases e
    have := (hx h0).choose_spec.choose_spec.2.1
    omega
theorem own_at {w : World} {B i n c : Nat} {A : Option Addr} {t : TypeId} {us : List Value} {u : Value} (h : w.ownsRow B t 1 (.slice A n c) n us) (hu : us[i]? = some u) :
    ∃ g, A = some ⟨g, 0, none⟩ ∧ w.cell? ⟨g, i, none⟩ = some u ∧ B ≤ g ∧ g < w.heap.size := by
  have hi := (List.getElem?_eq_some_iff.1 hu).1
  have hl := h.1
  rcases h.2 with ⟨hf, _⟩ | ⟨g, cap, cur, hf, _⟩
  · have := congrArg (fun v => match v with | .slice _ n _ => n | _ => 0) hf
    simp at this
    omega
  · obtain ⟨rfl, rfl⟩ : A = some ⟨g, 0, none⟩ ∧ c = cap := by simpa using hf
    have := h.cellAt i (by omega)
    rw [hu] at this
    exact ⟨g, rfl, this, (h.lt g rfl).1, (h.lt g rfl).2⟩
theorem own_cell {w : World} {B i n c g : Nat} {t : TypeId} {us : List Value} {u : Value} (h : w.ownsRow B t 1 (.slice (some ⟨g, 0, none⟩) n c) n us) (hu : us[i]? = some u) : w.cell? ⟨g, i, none⟩ = some u := by
  obtain ⟨g', e, hc, -⟩ := own_at h hu
  have : g = g' := by injection e with e; injection e
  subst this
  exact hc
end Go.Proofs.Ytpeobnmfndelhaa.trip

/- The game of some cops: plain mathematics, and what the walk over the program's huntIn wants. -/
namespace Go.Proofs.Ytpeobnmfndelhaa.lists
open Go.RowKit P2 words edges ints good adjs fns sets rets apps gridr grid trip covs bitsI times mids
set_option linter.unusedVariables false

def cfg (n k p : Nat) : List Nat := (listsN n k 0).getD p []
theorem cfg_at {n k p : Nat} (h : p < (listsN n k 0).length) : (listsN n k 0)[p]? = some (cfg n k p) := by
  unfold cfg; rw [List.getD_eq_getElem?_getD, List.getElem?_eq_getElem h]; rfl
theorem cfg_mem {n k p : Nat} (h : p < (listsN n k 0).length) : cfg n k p ∈ listsN n k 0 := List.mem_of_getElem? (cfg_at h)
theorem cfg_len {n k p : Nat} (h : p < (listsN n k 0).length) : (cfg n k p).length = k := (lists_mem k 0 _ (cfg_mem h)).1
theorem cfg_lt {n k p : Nat} (h : p < (listsN n k 0).length) : ∀ x ∈ cfg n k p, x < n := fun x hx => ((lists_mem k 0 _ (cfg_mem h)).2 x hx).2
/-- the game of k cops -/
def gameN (l : List Ed) (n k : Nat) : Game := ⟨(listsN n k 0).length, n, ballB l, fun p r => decide (r ∈ cfg n k p), fun p q => canN (ballB l) (cfg n k p) (cfg n k q) 0⟩
def mvN (l : List Ed) (n k p : Nat) : List Int := nw ((gameN l n k).mv p) (gameN l n k).P
def mvG (l : List Ed) (n k : Nat) : List (List Int) := (List.range (gameN l n k).P).map (mvN l n k)
theorem mvG_len (l : List Ed) (n k : Nat) : (mvG l n k).length = (gameN l n k).P := by simp [mvG]
theorem mvG_at {l : List Ed} {n k p : Nat} (h : p < (gameN l n k).P) : (mvG l n k)[p]? = some (mvN l n k p) := by simp [mvG, h]
theorem mvN_len (l : List Ed) (n k p : Nat) : (mvN l n k p).length ≤ (gameN l n k).P := nw_len _ _
theorem gameN_moves (l : List Ed) (n k : Nat) : MovesOf (gameN l n k) (mvG l n k) := by
  refine ⟨mvG_len l n k, fun p mvs h => ?_⟩
  have hp : p < (gameN l n k).P := by
    have := (List.getElem?_eq_some_iff.1 h).1
    rw [mvG_len] at this; exact this
  rw [mvG_at hp] at h
  have e : mvN l n k p = mvs := by injection h
  subst e
  refine ⟨fun q hq => ?_, fun q hq => ?_⟩
  · obtain ⟨j, hj, _, rfl⟩ := mem_nw.1 hq
    exact ⟨by omega, by omega⟩
  · constructor
    · exact fun h => mem_nw.2 ⟨q, hq, h, rfl⟩
    · intro h
      obtain ⟨j, hj, h2, e⟩ := mem_nw.1 h
      have : q = j := by omega
      subst this; exact h2
theorem game_small {n k : Nat} (hn : n ≤ 8) (hk : k ≤ 3) : (listsN n k 0).length ≤ 200 := by
  have h2 : ∀ i : Fin 9, ∀ j : Fin 4, (listsN i.val j.val 0).length ≤ 200 := by decide +kernel
  exact h2 ⟨n, by omega⟩ ⟨k, by omega⟩
theorem mvN_short {l : List Ed} {n k : Nat} (hn : n ≤ 8) (hk : k ≤ 3) : ∀ mvs ∈ mvG l n k, mvs.length ≤ 200 := fun mvs h => by
  obtain ⟨p, _, rfl⟩ := List.mem_map.1 h
  exact Nat.le_trans (mvN_len l n k p) (game_small hn hk)
theorem game_some {l : List Ed} {n k : Nat} (hk : 1 ≤ k) : 0 < (gameN l n k).P → 0 < (gameN l n k).n := fun h => by
  have h1 := cfg_len (n := n) (k := k) h
  have h2 := cfg_lt (n := n) (k := k) h
  cases hc : cfg n k 0 with
  | nil => rw [hc] at h1; simp at h1; omega
  | cons x L => exact Nat.lt_of_le_of_lt (Nat.zero_le x) (h2 x (by rw [hc]; exact List.mem_cons_self))
/-- the sets of the cops of the first p places -/
def tkK (l : List Ed) (n k p : Nat) : List Nat := (List.range p).map fun i => numOf ((gameN l n k).tk i) n
theorem tkK_len (l : List Ed) (n k p : Nat) : (tkK l n k p).length = p := by simp [tkK]
theorem tkK_succ (l : List Ed) (n k p : Nat) : tkK l n k (p + 1) = tkK l n k p ++ [numOf ((gameN l n k).tk p) n] := by simp [tkK, List.range_succ]
theorem tkK_all (l : List Ed) (n k : Nat) : tkK l n k (gameN l n k).P = codesL (gameN l n k).P (gameN l n k).n (gameN l n k).tk := rfl
theorem code_cfg {l : List Ed} {n k p : Nat} (h : p < (listsN n k 0).length) : codeL (castL (cfg n k p)) = numOf ((gameN l n k).tk p) n := by
  apply Nat.eq_of_testBit_eq
  intro z
  rw [code_bit (fun x hx => by obtain ⟨y, _, rfl⟩ := List.mem_map.1 hx; omega), numOf_bit]
  show decide ((z : Int) ∈ castL (cfg n k p)) = (decide (z < n) && decide (z ∈ cfg n k p))
  have e : (z : Int) ∈ castL (cfg n k p) ↔ z ∈ cfg n k p := by
    constructor
    · intro h
      obtain ⟨y, hy, e⟩ := List.mem_map.1 h
      have : y = z := by omega
      subst this; exact hy
    · exact fun h => List.mem_map.2 ⟨z, h, rfl⟩
  rw [show decide ((z : Int) ∈ castL (cfg n k p)) = decide (z ∈ cfg n k p) from by rw [decide_eq_decide]; exact e]
  by_cases hz : z ∈ cfg n k p
  · rw [decide_eq_true hz, decide_eq_true (cfg_lt h z hz)]; rfl
  · rw [decide_eq_false hz, Bool.and_false]
/-- the moves of the first p places, and q of the next one -/
def mvT (l : List Ed) (n k p : Nat) (q : List Int) : List (List Int) := (List.range (gameN l n k).P).map fun i => if i < p then mvN l n k i else if i = p then q else []
theorem mvT_len (l : List Ed) (n k p : Nat) (q : List Int) : (mvT l n k p q).length = (gameN l n k).P := by simp [mvT]
theorem mvT_zero (l : List Ed) (n k : Nat) : List.replicate (gameN l n k).P [] = mvT l n k 0 [] := by
  unfold mvT
  apply List.ext_getElem?
  intro i
  by_cases hi : i < (gameN l n k).P
  · simp [hi]
  · rw [List.getElem?_eq_none (by simp; omega), List.getElem?_eq_none (by simp; omega)]
theorem mvT_at {l : List Ed} {n k p : Nat} {q : List Int} (h : p < (gameN l n k).P) : (mvT l n k p q)[p]? = some q := by simp [mvT, h]
theorem mvT_set {l : List Ed} {n k p : Nat} {q q' : List Int} (h : p < (gameN l n k).P) : (mvT l n k p q).set p q' = mvT l n k p q' := by
  apply List.ext_getElem?
  intro i
  rw [List.getElem?_set, mvT_len]
  by_cases e : p = i
  · subst e; rw [if_pos rfl, if_pos h, mvT_at h]
  · rw [if_neg e]
    by_cases hi : i < (gameN l n k).P
    · have e2 : ¬ i = p := fun h => e h.symm
      simp [mvT, hi, e2]
    · rw [List.getElem?_eq_none (by rw [mvT_len]; omega), List.getElem?_eq_none (by rw [mvT_len]; omega)]
theorem mvT_next (l : List Ed) (n k p : Nat) : mvT l n k p (mvN l n k p) = mvT l n k (p + 1) [] := by
  unfold mvT
  refine List.map_congr_left fun i _ => ?_
  by_cases h : i < p
  · rw [if_pos h, if_pos (by omega)]
  · rw [if_neg h]
    by_cases e : i = p
    · subst e; rw [if_pos rfl, if_pos (by omega)]
    · rw [if_neg e, if_neg (by omega)]; split <;> rfl
theorem mvT_all (l : List Ed) (n k : Nat) : mvT l n k (gameN l n k).P [] = mvG l n k := by
  unfold mvT mvG
  exact List.map_congr_left fun i hi => if_pos (List.mem_range.1 hi)
section
variable {w w' : World} {B : Nat} {us : List Value} {rows : List (List Int)}
/-- a row that has grown, stored into its place -/
theorem OwnG.grow {g c k gb n9 cap : Nat} {u : Value} {r r2 : List Int} (h : OwnG w B (.slice (some ⟨g, 0, none⟩) rows.length c) us rows) (hu : us[k]? = some u) (hr : rows[k]? = some r)
    (hn : w'.ownsRow B 3 1 (.slice (some ⟨gb, 0, none⟩) n9 cap) r2.length (cellsI r2)) (hg : w.grownBy w' u.ownBlock) (hl : u.ownBlock = some gb ∨ w.heap.size ≤ gb) :
    OwnG (w'.setCell ⟨g, k, none⟩ (.slice (some ⟨gb, 0, none⟩) n9 cap)) B (.slice (some ⟨g, 0, none⟩) rows.length c) (us.set k (.slice (some ⟨gb, 0, none⟩) n9 cap)) (rows.set k r2) := by
  have hlen := h.len
  have hk := (List.getElem?_eq_some_iff.1 hr).1
  have hu0 := h.2.1 k u r hu hr
  have hG : w'.ownsRow B 25 1 (.slice (some ⟨g, 0, none⟩) rows.length c) rows.length us := own_kept h.1 hu0 (fun e => tneI e.symm) hg
  have hgr := gset1 w' g k (.slice (some ⟨gb, 0, none⟩) n9 cap)
  have keep : ∀ {C : Nat} {x : Value} {m : Nat} {xs : List Value}, w'.ownsRow C 3 1 x m xs → (w'.setCell ⟨g, k, none⟩ (.slice (some ⟨gb, 0, none⟩) n9 cap)).ownsRow C 3 1 x m xs := fun {C x m xs} ho => by
    refine ho.kept hgr ?_
    cases hx : x.ownBlock with
    | none => exact .inl rfl
    | some b => exact .inr fun e => own_apart ho hG tneI b hx (by simp [Value.ownBlock]; cases e; rfl)
  have apart : ∀ (i : Nat) x, i ≠ k → us[i]? = some x → x.ownBlock = none ∨ x.ownBlock ≠ u.ownBlock := fun i x e hx => by
    cases hv : x.ownBlock with
    | none => exact .inl rfl
    | some b =>
      refine .inr fun e2 => ?_
      rcases Nat.lt_or_gt_of_ne e with hlt | hlt
      · exact h.2.2 i k x u b hlt hx hu hv e2.symm
      · exact h.2.2 k i u x b hlt hu hx e2.symm hv
  have far : ∀ (i : Nat) x b, i ≠ k → us[i]? = some x → x.ownBlock = some b → b ≠ gb := fun i x b e hx hb e2 => by
    subst e2
    rcases hl with hl | hl
    · rcases apart i x e hx with h1 | h1
      · rw [hb] at h1; cases h1
      · exact h1 (hb.trans hl.symm)
    · obtain ⟨q, hq⟩ : ∃ q, rows[i]? = some q := ⟨_, List.getElem?_eq_getElem (by have := (List.getElem?_eq_some_iff.1 hx).1; omega)⟩
      have := ((h.2.1 i x q hx hq).lt b hb).2
      omega
  refine ⟨?_, ?_, ?_⟩
  · rw [List.length_set]
    exact (hG.stored k _).1
  · intro i x q hx hq
    by_cases e : i = k
    · subst e
      rw [List.getElem?_set_self (by omega)] at hx
      rw [List.getElem?_set_self hk] at hq
      cases hx; cases hq
      exact keep hn
    · rw [List.getElem?_set_ne (fun hh => e hh.symm)] at hx hq
      exact keep ((h.2.1 i x q hx hq).kept hg (apart i x e hx))
  · intro i j x x' b hij hx hx' hb
    by_cases e : i = k
    · subst e
      rw [List.getElem?_set_self (by omega)] at hx
      cases hx
      rw [List.getElem?_set_ne (by omega)] at hx'
      intro hb'
      have : b = gb := by simp [Value.ownBlock] at hb; exact hb.symm
      exact far j x' b (by omega) hx' hb' this
    · rw [List.getElem?_set_ne (fun hh => e hh.symm)] at hx
      by_cases e2 : j = k
      · subst e2
        rw [List.getElem?_set_self (by omega)] at hx'
        cases hx'
        intro hb'
        have : b = gb := by simp [Value.ownBlock] at hb'; exact hb'.symm
        exact far i x b e hx hb this
      · rw [List.getElem?_set_ne (fun hh => e2 hh.symm)] at hx'
        exact h.2.2 i j x x' b hij hx hx' hb
end
theorem blk5 {w : World} {g : Nat} {t : TypeId} {a b c d e : Value} (h : Blk w g t #[a, b, c, d, e]) :
    w.cell? ⟨g, 0, none⟩ = some a ∧ w.cell? ⟨g, 1, none⟩ = some b ∧ w.cell? ⟨g, 2, none⟩ = some c ∧ w.cell? ⟨g, 3, none⟩ = some d ∧ w.cell? ⟨g, 4, none⟩ = some e := ⟨h.cell 0, h.cell 1, h.cell 2, h.cell 3, h.cell 4⟩
end Go.Proofs.Ytpeobnmfndelhaa.lists
