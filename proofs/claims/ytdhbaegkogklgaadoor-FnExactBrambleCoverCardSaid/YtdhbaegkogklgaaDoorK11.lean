/- Bags and widths of eliminations: plain mathematics. -/
import Derived.Test.YtdhbaegkogklgaaDoorK09
import Derived.Test.YtdhbaegkogklgaaDoorK10
import Derived.Test.YtdhbaegkogklgaaDoorK07
import Derived.Test.YtdhbaegkogklgaaDoorK02
import Derived.Test.YtdhbaegkogklgaaDoorK01
import Derived.Test.YtdhbaegkogklgaaDoorProg
import Derived.WalkLawsBesides
import Derived.WalkSpells
import Derived.IntWalk
import Derived.Handy
import Derived.Test.YtdhbaegkogklgaaDoorK08
import Derived.Test.YtdhbaegkogklgaaDoorK04
import Derived.StillTailTactics
import Derived.Deep.DeepCutAuto
import Derived.Deep.RegionHeld3
import Derived.Deep.QuietTactic
namespace Go.Proofs.YtdhbaegkogklgaaDoor.bags
open Go.RowKit P2 words edges ints fns sets covs reach each
set_option linter.unusedVariables false

theorem fold_len : ∀ (xs L : List Int), (xs.foldl addD L).length ≤ L.length + xs.length
  | [], L => by simp
  | x :: xs, L => by
    rw [List.foldl_cons]
    have h1 := fold_len xs (addD L x)
    have h2 : (addD L x).length ≤ L.length + 1 := by unfold addD; split <;> simp
    simp only [List.length_cons]
    omega
theorem EachS.fresh {n : Nat} {tl : List Int} (h : EachS n tl) {k : Nat} {x : Int} (hx : tl[k]? = some x) : x ∉ tl.take k := fun hm => by
  have h1 := (each_dst h.1 h.range).1 h
  have hk := (List.getElem?_eq_some_iff.1 hx).1
  have h2 : dst (tl.take (k + 1)) = dst (tl.take k) := by rw [dst_succ hx]; unfold addD; rw [if_pos (mem_dst.2 hm)]
  have h3 : dst tl = (tl.drop (k + 1)).foldl addD (dst (tl.take (k + 1))) := by
    unfold dst
    rw [← List.foldl_append, List.take_append_drop]
  have h4 := fold_len (tl.drop (k + 1)) (dst (tl.take (k + 1)))
  rw [← h3, h2, List.length_drop] at h4
  have h5 := dst_len (tl.take k)
  rw [List.length_take] at h5
  have := h.1
  omega
theorem goneB_fresh {n : Nat} {tl : List Int} (h : EachS n tl) {k m : Nat} (hx : tl[k]? = some (m : Int)) : goneB (tl.take k) m = false := decide_eq_false (EachS.fresh h hx)
theorem goneB_succ {tl : List Int} {k m : Nat} (hx : tl[k]? = some (m : Int)) : goneB (tl.take (k + 1)) = pput (goneB (tl.take k)) m := by
  funext z
  unfold goneB pput
  rw [List.take_add_one, hx, Bool.eq_iff_iff, decide_eq_true_iff, Bool.or_eq_true, decide_eq_true_iff, decide_eq_true_iff]
  simp only [Option.toList, List.mem_append, List.mem_singleton]
  constructor
  · rintro (h1 | h1)
    · exact .inl h1
    · exact .inr (by omega)
  · rintro (h1 | h1)
    · exact .inl h1
    · exact .inr (by omega)
/-- the bag of a place -/
noncomputable def bagT (n : Nat) (l : List Ed) (tl : List Int) (i : Nat) : List Int := nw (bagB n l (goneB (tl.take i)) (tl.getD i 0).toNat) n
noncomputable def laterT (n : Nat) (l : List Ed) (tl : List Int) (i : Nat) : List Int := nw (laterB n l (goneB (tl.take i)) (tl.getD i 0).toNat) n
theorem getD_at {tl : List Int} {i m : Nat} (h : tl[i]? = some (m : Int)) : (tl.getD i 0).toNat = m := by rw [List.getD_eq_getElem?_getD, h]; simp
noncomputable def bagsK (n : Nat) (l : List Ed) (tl : List Int) (k : Nat) : List (List Int) := (List.range k).map (bagT n l tl)
theorem bagsK_len (n : Nat) (l : List Ed) (tl : List Int) (k : Nat) : (bagsK n l tl k).length = k := by simp [bagsK]
theorem bagsK_at {n : Nat} {l : List Ed} {tl : List Int} {k i : Nat} (h : i < k) : (bagsK n l tl k)[i]? = some (bagT n l tl i) := by simp [bagsK, h]
noncomputable def bagsR (n : Nat) (l : List Ed) (tl : List Int) (k : Nat) : List (List Int) := bagsK n l tl k ++ List.replicate (n - k) []
theorem bagsR_zero (n : Nat) (l : List Ed) (tl : List Int) : bagsR n l tl 0 = List.replicate n [] := by simp [bagsR, bagsK]
theorem bagsR_len (n : Nat) (l : List Ed) (tl : List Int) {k : Nat} (h : k ≤ n) : (bagsR n l tl k).length = n := by simp [bagsR, bagsK_len]; omega
theorem bagsR_all (n : Nat) (l : List Ed) (tl : List Int) : bagsR n l tl n = bagsK n l tl n := by simp [bagsR]
theorem bagsR_succ (n : Nat) (l : List Ed) (tl : List Int) {k : Nat} (h : k < n) : (bagsR n l tl k).set k (bagT n l tl k) = bagsR n l tl (k + 1) := by
  unfold bagsR
  obtain ⟨m, hm⟩ : ∃ m, n - k = m + 1 := ⟨n - k - 1, by omega⟩
  rw [List.set_append, if_neg (by rw [bagsK_len]; omega), bagsK_len, Nat.sub_self, hm, List.replicate_succ, List.set_cons_zero, show n - (k + 1) = m from by omega]
  unfold bagsK
  rw [List.range_succ, List.map_append, List.append_assoc]
  rfl
theorem bagT_len {n : Nat} {l : List Ed} {tl : List Int} {i m : Nat} (h : tl[i]? = some (m : Int)) (hm : m < n) : (bagT n l tl i).length = (laterT n l tl i).length + 1 := by
  unfold bagT laterT
  rw [getD_at h]
  exact bag_len hm
/-- the width by the first k places -/
noncomputable def widK (n : Nat) (l : List Ed) (tl : List Int) : Nat → Int
  | 0 => -1
  | k + 1 => max (widK n l tl k) ((laterT n l tl k).length : Int)
theorem widK_le (n : Nat) (l : List Ed) (tl : List Int) : ∀ k, -1 ≤ widK n l tl k ∧ widK n l tl k ≤ n
  | 0 => by unfold widK; omega
  | k + 1 => by
    have ih := widK_le n l tl k
    have : (laterT n l tl k).length ≤ n := nw_len _ _
    unfold widK
    omega
def ElimOk (s : Int) (l : List Ed) (tl : List Int) : Prop := P2.Good s l ∧ EachS s.toNat tl
end Go.Proofs.YtdhbaegkogklgaaDoor.bags

/- Slices of slices of integers: what a function returns that may fail; a row stored, rows made. -/
namespace Go.Proofs.YtdhbaegkogklgaaDoor.grid
open Go.RowKit P2 words edges ints owns rets
set_option linter.unusedVariables false

noncomputable def gdG (p : Prop) (rows : List (List Int)) : List (List Int) := if okG p = true then rows else []
theorem gdG_yes {p : Prop} (h : p) (l : List (List Int)) : gdG p l = l := by unfold gdG; rw [okG_yes h]; rfl
theorem gdG_no {p : Prop} (h : ¬ p) (l : List (List Int)) : gdG p l = [] := by unfold gdG; rw [okG_no h]; rfl
/-- rows and true where p holds, or none and false -/
def RetGr (w : World) (p : Prop) (rows : List (List Int)) (e : Ending) (w' : World) : Prop :=
  ∃ A c us, e = .returned (.tuple #[.slice A (gdG p rows).length c, .bool (okG p)]) ∧ OwnG w' w.heap.size (.slice A (gdG p rows).length c) us (gdG p rows) ∧ Below w.heap.size w w'
theorem RetGr.yes {w w' : World} {p : Prop} {rows : List (List Int)} {A : Option Addr} {c : Nat} {us : List Value} (hp : p) (ho : OwnG w' w.heap.size (.slice A rows.length c) us rows) (hb : Below w.heap.size w w') :
    RetGr w p rows (.returned (.tuple #[.slice A rows.length c, .bool true])) w' := by
  refine ⟨A, c, us, ?_, ?_, hb⟩
  · rw [gdG_yes hp, okG_yes hp]
  · rw [gdG_yes hp]; exact ho
theorem RetGr.no {w w' : World} {p : Prop} {rows : List (List Int)} {A : Option Addr} {c : Nat} (hp : ¬ p) (ho : w'.ownsRow w.heap.size 25 1 (.slice A 0 c) 0 []) (hb : Below w.heap.size w w') :
    RetGr w p rows (.returned (.tuple #[.slice A 0 c, .bool false])) w' := by
  refine ⟨A, c, [], ?_, ?_, hb⟩
  · rw [gdG_no hp, okG_no hp]; rfl
  · rw [gdG_no hp]
    exact ⟨ho, fun i u r hu => by simp at hu, fun i j u u' k _ hu => by simp at hu⟩
theorem RetGr.nil {w w' : World} {p : Prop} {rows : List (List Int)} (hp : ¬ p) (hb : Below w.heap.size w w') : RetGr w p rows (.returned (.tuple #[.slice none 0 0, .bool false])) w' :=
  RetGr.no hp (World.ownsRow_nil _ _ _ _) hb
theorem RetGr.congr {w w' : World} {p q : Prop} {rows rows' : List (List Int)} {e : Ending} (h : RetGr w p rows e w') (hp : p ↔ q) (hr : p → rows = rows') : RetGr w q rows' e w' := by
  have hpq : p = q := propext hp
  subst hpq
  by_cases h1 : p
  · rw [← hr h1]; exact h
  · obtain ⟨A, c, us, h2, h3, h4⟩ := h
    rw [gdG_no h1] at h2 h3
    exact ⟨A, c, us, by rw [gdG_no h1]; exact h2, by rw [gdG_no h1]; exact h3, h4⟩
section
variable {w w' : World} {B : Nat} {us : List Value} {rows : List (List Int)}
/-- a row stored into its place -/
theorem OwnG.store {g c k : Nat} {u : Value} {r : List Int} (h : OwnG w B (.slice (some ⟨g, 0, none⟩) rows.length c) us rows) (hk : k < rows.length) (hu : w.ownsRow B 3 1 u r.length (cellsI r))
    (hne : ∀ i x b, i ≠ k → us[i]? = some x → x.ownBlock = some b → u.ownBlock ≠ some b) : OwnG (w.setCell ⟨g, k, none⟩ u) B (.slice (some ⟨g, 0, none⟩) rows.length c) (us.set k u) (rows.set k r) := by
  have hl := h.len
  have hgr := gset (World.grownBy.refl w (some g)) k u
  have keep : ∀ {x : Value} {q : List Int}, w.ownsRow B 3 1 x q.length (cellsI q) → (w.setCell ⟨g, k, none⟩ u).ownsRow B 3 1 x q.length (cellsI q) := fun {x q} ho => by
    refine ho.kept hgr ?_
    cases hx : x.ownBlock with
    | none => exact .inl rfl
    | some b => exact .inr fun e => own_apart ho h.1 tneI b hx (by simp [Value.ownBlock]; cases e; rfl)
  refine ⟨?_, ?_, ?_⟩
  · rw [List.length_set]
    have := (h.1.stored k u).1
    simpa using this
  · intro i x q hx hq
    by_cases e : i = k
    · subst e
      rw [List.getElem?_set_self (by omega)] at hx
      rw [List.getElem?_set_self hk] at hq
      cases hx; cases hq
      exact keep hu
    · rw [List.getElem?_set_ne (fun hh => e hh.symm)] at hx hq
      exact keep (h.2.1 i x q hx hq)
  · intro i j x x' b hij hx hx' hb
    by_cases e : i = k
    · subst e
      rw [List.getElem?_set_self (by omega)] at hx
      cases hx
      rw [List.getElem?_set_ne (by omega)] at hx'
      intro hb'
      exact hne j x' b (by omega) hx' hb' hb
    · rw [List.getElem?_set_ne (fun hh => e hh.symm)] at hx
      by_cases e2 : j = k
      · subst e2
        rw [List.getElem?_set_self (by omega)] at hx'
        cases hx'
        exact hne i x b e hx hb
      · rw [List.getElem?_set_ne (fun hh => e2 hh.symm)] at hx'
        exact h.2.2 i j x x' b hij hx hx' hb
/-- a row made since is apart from all others -/
theorem OwnG.fresh {w0 : World} {v u : Value} {r : List Int} (h : OwnG w0 B v us rows) (hu : w.ownsRow w0.heap.size 3 1 u r.length (cellsI r)) : ∀ (i : Nat) x b, us[i]? = some x → x.ownBlock = some b → u.ownBlock ≠ some b := fun i x b hx hb hb' => by
  obtain ⟨q, hq⟩ : ∃ q, rows[i]? = some q := ⟨_, List.getElem?_eq_getElem (by have := (List.getElem?_eq_some_iff.1 hx).1; have := h.len; omega)⟩
  have h1 := ((h.2.1 i x q hx hq).lt b hb).2
  have h2 := (hu.lt b hb').1
  omega
/-- rows without numbers, just made -/
theorem OwnG.made (w : World) (n : Nat) (hn : n ≤ maxLen) : OwnG (w.alloc (.cells (madeCells #[.slice none 0 0] (n * 1)) 25)) w.heap.size (.slice (some ⟨w.heap.size, 0, none⟩) n n) (List.replicate n (.slice none 0 0)) (List.replicate n []) := by
  have hm : (madeCells #[Value.slice none 0 0] (n * 1)).toList = List.replicate n (.slice none 0 0) := by rw [toList_madeCells_one]; simp
  refine ⟨?_, ?_, ?_⟩
  · have hown := World.ownsRow_lit (base := w.heap.size) (e := 25) (size := 1) w (madeCells #[Value.slice none 0 0] (n * 1)) n (Nat.le_refl _) hn (size_madeCells _ _)
    rw [hm] at hown
    rw [List.length_replicate]
    exact hown
  · intro i x q hx hq
    have h1 : x = .slice none 0 0 := (List.mem_replicate.1 (List.mem_of_getElem? hx)).2
    have h2 : q = [] := (List.mem_replicate.1 (List.mem_of_getElem? hq)).2
    subst h1; subst h2
    exact World.ownsRow_nil _ _ _ _
  · intro i j x x' b hij hx hx' hb
    have h1 : x = .slice none 0 0 := (List.mem_replicate.1 (List.mem_of_getElem? hx)).2
    subst h1
    simp [Value.ownBlock] at hb
end
end Go.Proofs.YtdhbaegkogklgaaDoor.grid

/- The contracts of the model's l1Least and l1Most. -/
namespace Go.Proofs.YtdhbaegkogklgaaDoor.minmax
open Go.RowKit P2 words

theorem l1Most_any (a b : Int) (w : World) : Calls Tryd.prog 93 #[.int .i64 a, .int .i64 b] w fun e w' => e = .returned (.int .i64 (max a b)) ∧ w = w' := by
  by_cases h : b < a
  · have hm : Hid (max a b = a) := Int.max_eq_left (by omega)
    go_enter Tryd.func93, Tryd.ntmps93
    go_wp2_with fail
    go_ret
    exact ⟨ret_int hm.out.symm, rfl⟩
  · have hm : Hid (max a b = b) := Int.max_eq_right (by omega)
    go_enter Tryd.func93, Tryd.ntmps93
    go_wp2_with fail
    go_ret
    exact ⟨ret_int hm.out.symm, rfl⟩
end Go.Proofs.YtdhbaegkogklgaaDoor.minmax

/- The contracts of EliminationWidth: of the program and of the model. -/
namespace Go.Proofs.YtdhbaegkogklgaaDoor.bags
open Go.RowKit P2 words edges ints good adjs fns sets rets covs reach each bitsI grid gridr
set_option linter.unusedVariables false

theorem ite_max (a b : Int) : (if b < a then a else b) = max b a := by split <;> omega
def RetN (w : World) (p : Prop) (x : Int) (e : Ending) (w' : World) : Prop := e = .returned (.tuple #[.int .i64 (szG p x), .bool (okG p)]) ∧ Below w.heap.size w w'
theorem RetN.yes {w w' : World} {p : Prop} {x : Int} (hp : p) (hb : Below w.heap.size w w') : RetN w p x (.returned (.tuple #[.int .i64 x, .bool true])) w' := ⟨by rw [szG_yes hp, okG_yes hp], hb⟩
theorem RetN.no {w w' : World} {p : Prop} {x : Int} (hp : ¬ p) (hb : Below w.heap.size w w') : RetN w p x (.returned (.tuple #[.int .i64 0, .bool false])) w' := ⟨by rw [szG_no hp, okG_no hp], hb⟩
theorem ints_take {w : World} {A : Option Addr} {c i : Nat} {tl : List Int} (h : Ints w (.slice A tl.length c) tl) (hi : i ≤ tl.length) (hc : i ≤ c) : Ints w (.slice A i c) (tl.take i) := by
  have h1 := apps.Reads.take (c' := c) h hi hc
  rw [apps.cellsI_take] at h1
  show Reads w 1 _ (tl.take i).length _
  rw [List.length_take, Nat.min_eq_left hi]
  exact h1
theorem ints_cap {w : World} {A : Option Addr} {c : Nat} {tl : List Int} (h : Ints w (.slice A tl.length c) tl) : tl.length ≤ c := by
  rcases Nat.eq_zero_or_pos tl.length with h0 | h0
  · omega
  · obtain ⟨A', c', e, hx⟩ := h
    cases e
    exact (hx h0).choose_spec.choose_spec.2.1
end Go.Proofs.YtdhbaegkogklgaaDoor.bags

/- The contracts of the program's widthAt and TreewidthOf. -/
namespace Go.Proofs.YtdhbaegkogklgaaDoor.costs
open Go.RowKit P2 words edges ints good adjs fns sets rets covs reach bags bitsI fronts
set_option linter.unusedVariables false

noncomputable def costW (l : List Ed) (n g x : Nat) : Int := ((nw (laterB n l (bitB g) x) n).length : Int)
theorem costW_le (l : List Ed) (n : Nat) (hn : n ≤ 8) (g x : Nat) : costW l n g x ≤ 100 := by
  unfold costW
  have := nw_len (laterB n l (bitB g) x) n
  omega
theorem costW_pos (l : List Ed) (n g x : Nat) : 0 ≤ costW l n g x := by unfold costW; omega
noncomputable def twV (s : Int) (l : List Ed) : Int := leastV s.toNat (costW l s.toNat) (-1)
theorem LcUp.low {n : Nat} {cost : Nat → Nat → Int} {C : Nat → Int} (hn : n ≤ 8) (h : LcUp n cost (-1) 0 C) (hc : ∀ g x, 0 ≤ cost g x) : -1 ≤ C 0 := by
  by_cases e : 2 ^ n - 1 = 0
  · have := h.1; rw [e] at this; omega
  · obtain ⟨⟨x, _, _, hC⟩, _⟩ := h.2.1 0 (by omega) (by omega)
    have := hc 0 x
    omega
theorem tw_lc {n : Nat} {l : List Ed} {C : Nat → Int} (hn : n ≤ 8) (h : LcUp n (costW l n) (-1) 0 C) : twV (n : Int) l = C 0 := by
  have e : twV (n : Int) l = leastV n (costW l n) (-1) := rfl
  rw [e]
  exact Least.is (lc_least hn h.1 (fun c hc => h.2.1 c (by omega) hc) (h.low hn (costW_pos l n)))
theorem own_litT {w : World} {B N c : Nat} {A : Option Addr} {cs : List Value} (h : w.ownsRow B 3 1 (.slice A N c) N cs) (hN : 0 < N) : ∃ g, A = some ⟨g, 0, none⟩ := by
  rcases h.2 with ⟨_, h1⟩ | ⟨g, cap, cur, h1, _⟩
  · omega
  · cases h1; exact ⟨g, rfl⟩
end Go.Proofs.YtdhbaegkogklgaaDoor.costs

/- The contract of the closure of the program's cheapestOrder: does a node fit. -/
namespace Go.Proofs.YtdhbaegkogklgaaDoor.costs
open Go.RowKit P2 words edges ints good adjs fns sets rets covs reach bags bitsI fronts
set_option linter.unusedVariables false
set_option linter.unusedSimpArgs false

theorem max_if (a b : Int) : (if a < b then b else a) = max a b := by split <;> omega
theorem row0 {w : World} {B c : Nat} {g o : Nat} {F : List Int} {z : Int} (h : w.ownsRow B 3 1 (.slice (some ⟨g, o, none⟩) F.length c) F.length (cellsI F)) (hx : F[0]? = some z) : w.cell? ⟨g, o, none⟩ = some (.int .i64 z) := by
  obtain ⟨_, _, hf, hcc⟩ := (show Ints w (.slice (some ⟨g, o, none⟩) F.length c) F from Reads.of_own h).form
  cases hf
  obtain ⟨_, _, e, q⟩ := hcc 0 _ hx
  cases e
  exact q
def Apart' (u v : Value) : Prop := ∀ k, u.ownBlock = some k → v.ownBlock ≠ some k
def fitB (fit : Nat → Nat → Bool) (g : Nat) : Nat → Bool := fun x => !g.testBit x && fit g x
/-- the first order, k nodes long: the set of its nodes, and they -/
def ordN (n : Nat) (fit : Nat → Nat → Bool) : Nat → Option (Nat × List Int)
  | 0 => some (0, [])
  | k + 1 => (ordN n fit k).bind fun s => ((nw (fitB fit s.1) n)[0]?).map fun x => (s.1 ||| 2 ^ x.toNat, s.2 ++ [x])
theorem ordN_none {n : Nat} {fit : Nat → Nat → Bool} {k : Nat} (h : ordN n fit k = none) : ∀ j, ordN n fit (k + j) = none
  | 0 => h
  | j + 1 => by
    have := ordN_none h j
    show ordN n fit (k + j + 1) = none
    rw [ordN, this]; rfl
theorem ordN_ok {n : Nat} {fit : Nat → Nat → Bool} : ∀ {k : Nat} {g : Nat} {L : List Int}, ordN n fit k = some (g, L) → g < 2 ^ n ∧ L.length = k
  | 0, g, L, h => by
    cases h
    exact ⟨Nat.two_pow_pos n, rfl⟩
  | k + 1, g, L, h => by
    rw [ordN] at h
    cases hk : ordN n fit k with
    | none => rw [hk] at h; cases h
    | some s =>
      obtain ⟨g0, L0⟩ := s
      rw [hk] at h
      simp only [Option.bind_some] at h
      cases hx : (nw (fitB fit g0) n)[0]? with
      | none => rw [hx] at h; cases h
      | some x =>
        rw [hx] at h
        cases h
        obtain ⟨z, hz, h2⟩ := mem_nw.1 (List.mem_of_getElem? hx)
        have h3 := ordN_ok hk
        refine ⟨?_, by simp [h3.2]⟩
        obtain ⟨_, rfl⟩ := h2
        exact or_lt h3.1 (by simpa using hz)
noncomputable def ordL (n : Nat) (fit : Nat → Nat → Bool) : List Int := ((ordN n fit n).map (·.2)).getD []
end Go.Proofs.YtdhbaegkogklgaaDoor.costs
