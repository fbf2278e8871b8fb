/- The contracts of the model's l2Near and l2Node and of the program's hasNodes. -/
import Derived.Test.YthgahkkjdpljjaaDoorGoodS
import Derived.Test.YthgahkkjdpljjaaDoorNear
import Derived.Test.YthgahkkjdpljjaaDoorInts
namespace Go.Proofs.YthgahkkjdpljjaaDoor.adjs
open Go.RowKit P2 words edges good near

def Hit (e : Ed) (a b : Int) : Prop := (e.1 = a ∧ e.2 = b) ∨ (e.1 = b ∧ e.2 = a)
def NoHit (l : List Ed) (a b : Int) (k : Nat) : Prop := ∀ j e, j < k → l[j]? = some e → ¬ Hit e a b
theorem adj_hit {l : List Ed} {a b : Int} {e : Ed} (h : e ∈ l) (hh : Hit e a b) : adj l a b = true := by
  unfold adj
  rw [decide_eq_true_iff]
  obtain ⟨e1, e2⟩ := e
  rcases hh with ⟨rfl, rfl⟩ | ⟨rfl, rfl⟩
  · exact .inl h
  · exact .inr h
theorem adj_nohit {l : List Ed} {a b : Int} (h : NoHit l a b l.length) : adj l a b = false := by
  unfold adj
  rw [decide_eq_false_iff_not]
  rintro (h1 | h1)
  · obtain ⟨j, hj⟩ := List.getElem?_of_mem h1
    exact h j _ (List.getElem?_eq_some_iff.1 hj).1 hj (.inl ⟨rfl, rfl⟩)
  · obtain ⟨j, hj⟩ := List.getElem?_of_mem h1
    exact h j _ (List.getElem?_eq_some_iff.1 hj).1 hj (.inr ⟨rfl, rfl⟩)
theorem NoHit.succ {l : List Ed} {a b : Int} {k : Nat} {e : Ed} (h : NoHit l a b k) (he : l[k]? = some e) (hh : ¬ Hit e a b) : NoHit l a b (k + 1) := fun j x hj hx => by
  by_cases ej : j = k
  · subst ej; rw [he] at hx; cases hx; exact hh
  · exact h j x (by omega) hx
theorem near_cases (e : Ed) (a b : Int) :
    (Hit e a b ∧ (((e.1 == a) = true ∧ (e.2 == b) = true) ∨ ((e.1 == a) = false ∧ (e.1 == b) = true ∧ (e.2 == a) = true))) ∨
    (¬ Hit e a b ∧ (((e.1 == a) = true ∧ (e.2 == b) = false ∧ (e.1 == b) = true ∧ (e.2 == a) = false) ∨ ((e.1 == a) = true ∧ (e.2 == b) = false ∧ (e.1 == b) = false) ∨
      ((e.1 == a) = false ∧ (e.1 == b) = true ∧ (e.2 == a) = false) ∨ ((e.1 == a) = false ∧ (e.1 == b) = false))) := by
  unfold Hit
  simp only [beq_iff_eq, beq_eq_false_iff_ne]
  omega

set_option maxHeartbeats 2000000 in
theorem l2Near_any (s a b : Int) (v : Value) (l : List Ed) (w : World) (h : Edges w v l) (hl : l.length ≤ 1048576) :
    Calls Tryd.prog 40 #[.agg #[.int .i64 s, v], .int .i64 a, .int .i64 b] w fun e w' => e = .returned (.bool (adj l a b)) ∧ Below w.heap.size w w' := by
  have hbx := Blk.new w 30 #[.int .i64 s, v]
  have hb1 : Below w.heap.size w (w.alloc (.cells #[.int .i64 s, v] 30)) := (Below.refl _ _).alloc (Nat.le_refl _) _
  obtain ⟨A, c, rfl, hc⟩ := h.form
  have HC := Lib.hid hc
  clear h hc
  go_enter Tryd.func40, Tryd.ntmps40
  go_wp2_with fail
  go_loopw [7] (fun i wr => ∃ k : Nat, k ≤ l.length ∧ i = .int .i64 (k : Int) ∧ Hid (NoHit l a b k) ∧ Blk wr w.heap.size 30 #[.int .i64 s, .slice A l.length c] ∧ Below w.heap.size w wr) (fun i _ => l.length - (intOf i).toNat)
  case atStart => exact ⟨0, Nat.zero_le _, rfl, fun j e h => by omega, hbx, hb1⟩
  case round =>
    obtain ⟨k, hk, rfl, hno, hbk, hB⟩ := hrel
    obtain ⟨p0, p1, z0, z1⟩ := hbk.two
    have hsz : w.heap.size < wr.heap.size := hbk.lt
    by_cases hlt : k < l.length
    · obtain ⟨x, hx⟩ : ∃ x, l[k]? = some x := ⟨_, List.getElem?_eq_getElem hlt⟩
      obtain ⟨g, o, rfl, c0, c1⟩ := HC.out k x hx
      have hlt' : (k : Int) < (l.length : Int) := by omega
      have q0 : wr.cell? ⟨g, o + k * 2, none⟩ = some (.int .i64 x.1) := (hB.cell (p := ⟨g, o + k * 2, none⟩) (World.block_lt_of_cell? w (a := ⟨g, o + k * 2, none⟩) c0)).trans c0
      have q1 : wr.cell? ⟨g, o + k * 2 + 1, none⟩ = some (.int .i64 x.2) := (hB.cell (p := ⟨g, o + k * 2 + 1, none⟩) (World.block_lt_of_cell? w (a := ⟨g, o + k * 2 + 1, none⟩) c1)).trans c1
      have HBK := Lib.hid hbk
      clear hbk c0 c1
      rcases near_cases x a b with ⟨hh, hcs⟩ | ⟨hh, hcs⟩
      · have HA := Lib.hid (adj_hit (List.mem_of_getElem? hx) hh)
        clear hx hh
        obtain ⟨x1, x2⟩ := x
        rcases hcs with ⟨d1, d2⟩ | ⟨d1, d2, d3⟩
        all_goals
          simp only at d1 d2
          try simp only at d3
          go_wp2_with fail
          go_ret
          exact ⟨ret_bool HA.out.symm, hB.alloc (by omega) _⟩
      · have HA := Lib.hid (hno.out.succ hx hh)
        clear hx hh
        obtain ⟨x1, x2⟩ := x
        rcases hcs with ⟨d1, d2, d3, d4⟩ | ⟨d1, d2, d3⟩ | ⟨d1, d2, d3⟩ | ⟨d1, d2⟩
        all_goals
          simp only at d1 d2
          try simp only at d3
          try simp only at d4
          go_wp2_with fail
          go_roundw
          case rel => exact ⟨k + 1, by omega, by go_num, HA, HBK.out.alloc _, hB.alloc (by omega) _⟩
          case measure => simp [intOf]; omega
    · have HA : Hid (adj l a b = false) := adj_nohit (by have := hno.out; rwa [show k = l.length from by omega] at this)
      go_wp2_with fail
      go_ret
      exact ⟨ret_bool HA.out.symm, hB⟩


/-- the Graph is valid and has all of the nodes -/
noncomputable def nodesB (s : Int) (l : List Ed) (xs : List Int) : Bool := @decide (P2.Good s l ∧ ∀ x ∈ xs, 0 ≤ x ∧ x < s) (Classical.propDecidable _)
theorem nodesB_yes {s : Int} {l : List Ed} {xs : List Int} (h : P2.Good s l) (hx : ∀ x ∈ xs, 0 ≤ x ∧ x < s) : nodesB s l xs = true := by
  unfold nodesB; exact @decide_eq_true _ (Classical.propDecidable _) ⟨h, hx⟩
theorem nodesB_iff {s : Int} {l : List Ed} {xs : List Int} : nodesB s l xs = true ↔ P2.Good s l ∧ ∀ x ∈ xs, 0 ≤ x ∧ x < s := by
  unfold nodesB; exact @decide_eq_true_iff _ (Classical.propDecidable _)
theorem nodesB_no {s : Int} {l : List Ed} {xs : List Int} (h : ¬ (P2.Good s l ∧ ∀ x ∈ xs, 0 ≤ x ∧ x < s)) : nodesB s l xs = false := by
  unfold nodesB; exact @decide_eq_false _ (Classical.propDecidable _) h

set_option maxHeartbeats 1000000 in
theorem hasNodes_any (s : Int) (v u : Value) (l : List Ed) (xs : List Int) (w : World) (h : Edges w v l) (hl : l.length ≤ 1048576) (hu : Ints w u xs) (hxl : xs.length ≤ 1048576) :
    Calls Tryd.prog 41 #[.agg #[.int .i64 s, v], u] w fun e w' => e = .returned (.bool (nodesB s l xs)) ∧ Below w.heap.size w w' := by
  have hb1 : Below w.heap.size w (w.alloc (.cells #[.int .i64 s, v] 30)) := (Below.refl _ _).alloc (Nat.le_refl _) _
  have hbx := Blk.new w 30 #[.int .i64 s, v]
  have HG := Lib.hid (implIsGraph_any s v l _ (h.below hb1) hl)
  obtain ⟨A, c, rfl, -⟩ := h.form
  obtain ⟨A2, c2, rfl, hc⟩ := hu.form
  have HC := Lib.hid hc
  clear h hu hc
  by_cases hg : P2.Good s l
  · rw [goodB_yes hg] at HG
    have h0 := hg.1
    have h8 := hg.2.1
    have HGD := Lib.hid hg
    clear hg
    go_enter Tryd.func41, Tryd.ntmps41
    go_wp2_with fail
    refine HG.out.mono ?_
    rintro e w1 ⟨rfl, b1⟩
    have hB1 := btrans hb1 b1
    have hbx1 := hbx.below b1 hbx.lt
    obtain ⟨p0, p1, -, -⟩ := hbx1.two
    clear hbx hbx1 hb1 HG b1
    go_wp2_with fail
    go_loop [12] (fun i => ∃ k : Nat, k ≤ xs.length ∧ i = .int .i64 (k : Int) ∧ Hid (∀ j x, j < k → xs[j]? = some x → 0 ≤ x ∧ x < s)) (fun i => xs.length - (intOf i).toNat)
    case atStart => exact ⟨0, Nat.zero_le _, rfl, fun j e h => by omega⟩
    case round =>
      obtain ⟨k, hk, rfl, hok⟩ := hrel
      by_cases hlt : k < xs.length
      · obtain ⟨x, hx⟩ : ∃ x, xs[k]? = some x := ⟨_, List.getElem?_eq_getElem hlt⟩
        obtain ⟨g, o, rfl, c0⟩ := HC.out k x hx
        have hlt' : (k : Int) < (xs.length : Int) := by omega
        have q0 : w1.cell? ⟨g, o + k, none⟩ = some (.int .i64 x) := (hB1.cell (p := ⟨g, o + k, none⟩) (World.block_lt_of_cell? w (a := ⟨g, o + k, none⟩) c0)).trans c0
        clear c0
        by_cases hx0 : x < 0
        · have HN := Lib.hid (nodesB_no (s := s) (l := l) (xs := xs) (fun H => by have := H.2 x (List.mem_of_getElem? hx); omega))
          have d0 : decide (x < 0) = true := by simpa using hx0
          clear hx
          go_wp2_with fail
          go_ret
          exact ⟨ret_bool HN.out.symm, hB1⟩
        · have d0 : decide (x < 0) = false := by simpa using hx0
          by_cases hxs : s ≤ x
          · have HN := Lib.hid (nodesB_no (s := s) (l := l) (xs := xs) (fun H => by have := H.2 x (List.mem_of_getElem? hx); omega))
            have d1 : decide (s ≤ x) = true := by simpa using hxs
            clear hx
            go_wp2_with fail
            go_ret
            exact ⟨ret_bool HN.out.symm, hB1⟩
          · have HK : Hid (∀ j x, j < k + 1 → xs[j]? = some x → 0 ≤ x ∧ x < s) := fun j y hj hy => by
              by_cases e : j = k
              · subst e; rw [hx] at hy; cases hy; omega
              · exact hok.out j y (by omega) hy
            have d1 : decide (s ≤ x) = false := by simpa using hxs
            clear hx
            go_wp2_with fail
            go_round
            case rel => exact ⟨k + 1, by omega, by go_num, HK⟩
            case measure => simp [intOf]; omega
      · have HN := Lib.hid (nodesB_yes (s := s) (l := l) (xs := xs) HGD.out (fun x hx => by
          obtain ⟨j, hj⟩ := List.getElem?_of_mem hx
          exact hok.out j x (by have := (List.getElem?_eq_some_iff.1 hj).1; omega) hj))
        go_wp2_with fail
        go_ret
        exact ⟨ret_bool HN.out.symm, hB1⟩
  · rw [goodB_no hg] at HG
    rw [nodesB_no (fun H => hg H.1)]
    clear hg
    go_enter Tryd.func41, Tryd.ntmps41
    go_wp2_with fail
    refine HG.out.mono ?_
    rintro e w1 ⟨rfl, b1⟩
    go_wp2_with fail
    go_ret
    exact ⟨rfl, btrans hb1 b1⟩
end Go.Proofs.YthgahkkjdpljjaaDoor.adjs
