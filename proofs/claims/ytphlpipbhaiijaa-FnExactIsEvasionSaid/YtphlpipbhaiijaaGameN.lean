/- The game of some cops: plain mathematics, and what the walk over the program's huntIn wants. -/
import Derived.Test.YtphlpipbhaiijaaCopL
import Derived.Test.YtphlpipbhaiijaaChase
import Derived.Test.YtphlpipbhaiijaaMovM
import Derived.Test.YtphlpipbhaiijaaTrip
namespace Go.Proofs.Ytphlpipbhaiijaa.lists
open Go.RowKit P2 words edges ints good adjs fns sets rets apps gridr grid trip covs bitsI times mids
set_option linter.unusedVariables false

def cfg (n k p : Nat) : List Nat := (listsN n k 0).getD p []
theorem cfg_at {n k p : Nat} (h : p < (listsN n k 0).length) : (listsN n k 0)[p]? = some (cfg n k p) := by
  unfold cfg; rw [List.getD_eq_getElem?_getD, List.getElem?_eq_getElem h]; rfl
theorem cfg_mem {n k p : Nat} (h : p < (listsN n k 0).length) : cfg n k p ∈ listsN n k 0 := List.mem_of_getElem? (cfg_at h)
theorem cfg_len {n k p : Nat} (h : p < (listsN n k 0).length) : (cfg n k p).length = k := (lists_mem k 0 _ (cfg_mem h)).1
theorem cfg_lt {n k p : Nat} (h : p < (listsN n k 0).length) : ∀ x ∈ cfg n k p, x < n := fun x hx => ((lists_mem k 0 _ (cfg_mem h)).2 x hx).2
/-- the game of k cops -/
def gameN (l : List Ed) (n k : Nat) : Game := ⟨(listsN n k 0).length, n, ballB l, fun p r => decide (r ∈ cfg n k p), fun p q => canN (ballB l) (cfg n k p) (cfg n k q) 0⟩
def mvN (l : List Ed) (n k p : Nat) : List Int := nw ((gameN l n k).mv p) (gameN l n k).P
def mvG (l : List Ed) (n k : Nat) : List (List Int) := (List.range (gameN l n k).P).map (mvN l n k)
theorem mvG_len (l : List Ed) (n k : Nat) : (mvG l n k).length = (gameN l n k).P := by simp [mvG]
theorem mvG_at {l : List Ed} {n k p : Nat} (h : p < (gameN l n k).P) : (mvG l n k)[p]? = some (mvN l n k p) := by simp [mvG, h]
theorem mvN_len (l : List Ed) (n k p : Nat) : (mvN l n k p).length ≤ (gameN l n k).P := nw_len _ _
theorem gameN_moves (l : List Ed) (n k : Nat) : MovesOf (gameN l n k) (mvG l n k) := by
  refine ⟨mvG_len l n k, fun p mvs h => ?_⟩
  have hp : p < (gameN l n k).P := by
    have := (List.getElem?_eq_some_iff.1 h).1
    rw [mvG_len] at this; exact this
  rw [mvG_at hp] at h
  have e : mvN l n k p = mvs := by injection h
  subst e
  refine ⟨fun q hq => ?_, fun q hq => ?_⟩
  · obtain ⟨j, hj, _, rfl⟩ := mem_nw.1 hq
    exact ⟨by omega, by omega⟩
  · constructor
    · exact fun h => mem_nw.2 ⟨q, hq, h, rfl⟩
    · intro h
      obtain ⟨j, hj, h2, e⟩ := mem_nw.1 h
      have : q = j := by omega
      subst this; exact h2
theorem game_small {n k : Nat} (hn : n ≤ 8) (hk : k ≤ 3) : (listsN n k 0).length ≤ 200 := by
  have h2 : ∀ i : Fin 9, ∀ j : Fin 4, (listsN i.val j.val 0).length ≤ 200 := by decide +kernel
  exact h2 ⟨n, by omega⟩ ⟨k, by omega⟩
theorem mvN_short {l : List Ed} {n k : Nat} (hn : n ≤ 8) (hk : k ≤ 3) : ∀ mvs ∈ mvG l n k, mvs.length ≤ 200 := fun mvs h => by
  obtain ⟨p, _, rfl⟩ := List.mem_map.1 h
  exact Nat.le_trans (mvN_len l n k p) (game_small hn hk)
theorem game_some {l : List Ed} {n k : Nat} (hk : 1 ≤ k) : 0 < (gameN l n k).P → 0 < (gameN l n k).n := fun h => by
  have h1 := cfg_len (n := n) (k := k) h
  have h2 := cfg_lt (n := n) (k := k) h
  cases hc : cfg n k 0 with
  | nil => rw [hc] at h1; simp at h1; omega
  | cons x L => exact Nat.lt_of_le_of_lt (Nat.zero_le x) (h2 x (by rw [hc]; exact List.mem_cons_self))
/-- the sets of the cops of the first p places -/
def tkK (l : List Ed) (n k p : Nat) : List Nat := (List.range p).map fun i => numOf ((gameN l n k).tk i) n
theorem tkK_len (l : List Ed) (n k p : Nat) : (tkK l n k p).length = p := by simp [tkK]
theorem tkK_succ (l : List Ed) (n k p : Nat) : tkK l n k (p + 1) = tkK l n k p ++ [numOf ((gameN l n k).tk p) n] := by simp [tkK, List.range_succ]
theorem tkK_all (l : List Ed) (n k : Nat) : tkK l n k (gameN l n k).P = codesL (gameN l n k).P (gameN l n k).n (gameN l n k).tk := rfl
theorem code_cfg {l : List Ed} {n k p : Nat} (h : p < (listsN n k 0).length) : codeL (castL (cfg n k p)) = numOf ((gameN l n k).tk p) n := by
  apply Nat.eq_of_testBit_eq
  intro z
  rw [code_bit (fun x hx => by obtain ⟨y, _, rfl⟩ := List.mem_map.1 hx; omega), numOf_bit]
  show decide ((z : Int) ∈ castL (cfg n k p)) = (decide (z < n) && decide (z ∈ cfg n k p))
  have e : (z : Int) ∈ castL (cfg n k p) ↔ z ∈ cfg n k p := by
    constructor
    · intro h
      obtain ⟨y, hy, e⟩ := List.mem_map.1 h
      have : y = z := by omega
      subst this; exact hy
    · exact fun h => List.mem_map.2 ⟨z, h, rfl⟩
  rw [show decide ((z : Int) ∈ castL (cfg n k p)) = decide (z ∈ cfg n k p) from by rw [decide_eq_decide]; exact e]
  by_cases hz : z ∈ cfg n k p
  · rw [decide_eq_true hz, decide_eq_true (cfg_lt h z hz)]; rfl
  · rw [decide_eq_false hz, Bool.and_false]
/-- the moves of the first p places, and q of the next one -/
def mvT (l : List Ed) (n k p : Nat) (q : List Int) : List (List Int) := (List.range (gameN l n k).P).map fun i => if i < p then mvN l n k i else if i = p then q else []
theorem mvT_len (l : List Ed) (n k p : Nat) (q : List Int) : (mvT l n k p q).length = (gameN l n k).P := by simp [mvT]
theorem mvT_zero (l : List Ed) (n k : Nat) : List.replicate (gameN l n k).P [] = mvT l n k 0 [] := by
  unfold mvT
  apply List.ext_getElem?
  intro i
  by_cases hi : i < (gameN l n k).P
  · simp [hi]
  · rw [List.getElem?_eq_none (by simp; omega), List.getElem?_eq_none (by simp; omega)]
theorem mvT_at {l : List Ed} {n k p : Nat} {q : List Int} (h : p < (gameN l n k).P) : (mvT l n k p q)[p]? = some q := by simp [mvT, h]
theorem mvT_set {l : List Ed} {n k p : Nat} {q q' : List Int} (h : p < (gameN l n k).P) : (mvT l n k p q).set p q' = mvT l n k p q' := by
  apply List.ext_getElem?
  intro i
  rw [List.getElem?_set, mvT_len]
  by_cases e : p = i
  · subst e; rw [if_pos rfl, if_pos h, mvT_at h]
  · rw [if_neg e]
    by_cases hi : i < (gameN l n k).P
    · have e2 : ¬ i = p := fun h => e h.symm
      simp [mvT, hi, e2]
    · rw [List.getElem?_eq_none (by rw [mvT_len]; omega), List.getElem?_eq_none (by rw [mvT_len]; omega)]
theorem mvT_next (l : List Ed) (n k p : Nat) : mvT l n k p (mvN l n k p) = mvT l n k (p + 1) [] := by
  unfold mvT
  refine List.map_congr_left fun i _ => ?_
  by_cases h : i < p
  · rw [if_pos h, if_pos (by omega)]
  · rw [if_neg h]
    by_cases e : i = p
    · subst e; rw [if_pos rfl, if_pos (by omega)]
    · rw [if_neg e, if_neg (by omega)]; split <;> rfl
theorem mvT_all (l : List Ed) (n k : Nat) : mvT l n k (gameN l n k).P [] = mvG l n k := by
  unfold mvT mvG
  exact List.map_congr_left fun i hi => if_pos (List.mem_range.1 hi)
section
variable {w w' : World} {B : Nat} {us : List Value} {rows : List (List Int)}
/-- a row that has grown, stored into its place -/
theorem OwnG.grow {g c k gb n9 cap : Nat} {u : Value} {r r2 : List Int} (h : OwnG w B (.slice (some ⟨g, 0, none⟩) rows.length c) us rows) (hu : us[k]? = some u) (hr : rows[k]? = some r)
    (hn : w'.ownsRow B 3 1 (.slice (some ⟨gb, 0, none⟩) n9 cap) r2.length (cellsI r2)) (hg : w.grownBy w' u.ownBlock) (hl : u.ownBlock = some gb ∨ w.heap.size ≤ gb) :
    OwnG (w'.setCell ⟨g, k, none⟩ (.slice (some ⟨gb, 0, none⟩) n9 cap)) B (.slice (some ⟨g, 0, none⟩) rows.length c) (us.set k (.slice (some ⟨gb, 0, none⟩) n9 cap)) (rows.set k r2) := by
  have hlen := h.len
  have hk := (List.getElem?_eq_some_iff.1 hr).1
  have hu0 := h.2.1 k u r hu hr
  have hG : w'.ownsRow B 25 1 (.slice (some ⟨g, 0, none⟩) rows.length c) rows.length us := own_kept h.1 hu0 (fun e => tneI e.symm) hg
  have hgr := gset1 w' g k (.slice (some ⟨gb, 0, none⟩) n9 cap)
  have keep : ∀ {C : Nat} {x : Value} {m : Nat} {xs : List Value}, w'.ownsRow C 3 1 x m xs → (w'.setCell ⟨g, k, none⟩ (.slice (some ⟨gb, 0, none⟩) n9 cap)).ownsRow C 3 1 x m xs := fun {C x m xs} ho => by
    refine ho.kept hgr ?_
    cases hx : x.ownBlock with
    | none => exact .inl rfl
    | some b => exact .inr fun e => own_apart ho hG tneI b hx (by simp [Value.ownBlock]; cases e; rfl)
  have apart : ∀ (i : Nat) x, i ≠ k → us[i]? = some x → x.ownBlock = none ∨ x.ownBlock ≠ u.ownBlock := fun i x e hx => by
    cases hv : x.ownBlock with
    | none => exact .inl rfl
    | some b =>
      refine .inr fun e2 => ?_
      rcases Nat.lt_or_gt_of_ne e with hlt | hlt
      · exact h.2.2 i k x u b hlt hx hu hv e2.symm
      · exact h.2.2 k i u x b hlt hu hx e2.symm hv
  have far : ∀ (i : Nat) x b, i ≠ k → us[i]? = some x → x.ownBlock = some b → b ≠ gb := fun i x b e hx hb e2 => by
    subst e2
    rcases hl with hl | hl
    · rcases apart i x e hx with h1 | h1
      · rw [hb] at h1; cases h1
      · exact h1 (hb.trans hl.symm)
    · obtain ⟨q, hq⟩ : ∃ q, rows[i]? = some q := ⟨_, List.getElem?_eq_getElem (by have := (List.getElem?_eq_some_iff.1 hx).1; omega)⟩
      have := ((h.2.1 i x q hx hq).lt b hb).2
      omega
  refine ⟨?_, ?_, ?_⟩
  · rw [List.length_set]
    exact (hG.stored k _).1
  · intro i x q hx hq
    by_cases e : i = k
    · subst e
      rw [List.getElem?_set_self (by omega)] at hx
      rw [List.getElem?_set_self hk] at hq
      cases hx; cases hq
      exact keep hn
    · rw [List.getElem?_set_ne (fun hh => e hh.symm)] at hx hq
      exact keep ((h.2.1 i x q hx hq).kept hg (apart i x e hx))
  · intro i j x x' b hij hx hx' hb
    by_cases e : i = k
    · subst e
      rw [List.getElem?_set_self (by omega)] at hx
      cases hx
      rw [List.getElem?_set_ne (by omega)] at hx'
      intro hb'
      have : b = gb := by simp [Value.ownBlock] at hb; exact hb.symm
      exact far j x' b (by omega) hx' hb' this
    · rw [List.getElem?_set_ne (fun hh => e hh.symm)] at hx
      by_cases e2 : j = k
      · subst e2
        rw [List.getElem?_set_self (by omega)] at hx'
        cases hx'
        intro hb'
        have : b = gb := by simp [Value.ownBlock] at hb'; exact hb'.symm
        exact far i x b e hx hb this
      · rw [List.getElem?_set_ne (fun hh => e2 hh.symm)] at hx'
        exact h.2.2 i j x x' b hij hx hx' hb
end
theorem blk5 {w : World} {g : Nat} {t : TypeId} {a b c d e : Value} (h : Blk w g t #[a, b, c, d, e]) :
    w.cell? ⟨g, 0, none⟩ = some a ∧ w.cell? ⟨g, 1, none⟩ = some b ∧ w.cell? ⟨g, 2, none⟩ = some c ∧ w.cell? ⟨g, 3, none⟩ = some d ∧ w.cell? ⟨g, 4, none⟩ = some e := ⟨h.cell 0, h.cell 1, h.cell 2, h.cell 3, h.cell 4⟩
end Go.Proofs.Ytphlpipbhaiijaa.lists
