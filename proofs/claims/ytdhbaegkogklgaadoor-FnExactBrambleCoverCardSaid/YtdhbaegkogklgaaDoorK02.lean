/- The contracts of the laws' helpers over slices of integers: copies, comparisons, marks. -/
import Derived.Test.YtdhbaegkogklgaaDoorProg
import Derived.Test.YtdhbaegkogklgaaDoorK01
import Derived.WalkLawsBesides
import Derived.WalkSpells
import Derived.IntWalk
import Derived.Deep.QuietTactic
import Derived.BigQuiet
import Derived.Deep.DeepCutAuto
import Derived.Handy
import Derived.Laws.BitsLemmas
import Derived.Deep.RegionHeld3
import Derived.Laws.Bits64b
namespace Go.Proofs.YtdhbaegkogklgaaDoor.ints
open Go.RowKit P2 words

theorem infoInt : (Tryd.prog.info? 3).map (fun i => (i.zero, i.size, i.bytes)) = some (some (.int .i64 0), 1, 8) := by kernel_rfl

/-- a new row of one number, and an empty one -/
theorem own_new1 (w : World) (t : TypeId) (x : Int) : (w.alloc (.cells #[.int .i64 x] t)).ownsRow w.heap.size t 1 (.slice (some ⟨w.heap.size, 0, none⟩) 1 1) [x].length (cellsI [x]) :=
  World.ownsRow_lit (size := 1) w #[.int .i64 x] 1 (Nat.le_refl _) (by unfold maxLen; omega) rfl
theorem own_new0 (w : World) (t : TypeId) (size : Nat) : (w.alloc (.cells #[] t)).ownsRow w.heap.size t size (.slice (some ⟨w.heap.size, 0, none⟩) 0 0) 0 [] :=
  World.ownsRow_lit w #[] 0 (Nat.le_refl _) (Nat.zero_le _) (by simp)
set_option maxHeartbeats 400000 in
theorem eqIntS_yes (a b : Value) (l : List Int) (w : World) (ha : Ints w a l) (hb : Ints w b l) (hl : l.length ≤ 1048576) :
    Calls Tryd.prog 15 #[a, b] w fun e w' => e = .returned (.bool true) ∧ ∃ n, w' = w.drewN n := by
  obtain ⟨A1, c1, rfl, h1⟩ := ha.form
  obtain ⟨A2, c2, rfl, h2⟩ := hb.form
  have H1 := Lib.hid h1
  have H2 := Lib.hid h2
  clear h1 h2 ha hb
  go_enter Tryd.func15, Tryd.ntmps15
  go_wp2_with fail
  go_loopw [5] (fun i wr => ∃ k : Nat, k ≤ l.length ∧ i = .int .i64 (k : Int) ∧ ∃ n, wr = w.drewN n) (fun i _ => l.length - (intOf i).toNat)
  case atStart => exact ⟨0, Nat.zero_le _, rfl, 0, rfl⟩
  case round =>
    obtain ⟨k, hk, rfl, n, rfl⟩ := hrel
    by_cases hlt : k < l.length
    · obtain ⟨x, hx⟩ : ∃ x, l[k]? = some x := ⟨_, List.getElem?_eq_getElem hlt⟩
      obtain ⟨g1, o1, rfl, p0⟩ := H1.out k x hx
      obtain ⟨g2, o2, rfl, q0⟩ := H2.out k x hx
      have hlt' : (k : Int) < (l.length : Int) := by omega
      have hs : (x != x) = false := by simp
      clear hx
      go_wp2_with fail
      go_quiet (fail)
      go_wp2_with fail
      go_roundw
      case rel => exact ⟨k + 1, by omega, by go_num, _, rfl⟩
      case measure => simp [intOf]; omega
    · go_wp2_with fail
      go_ret
      exact ⟨rfl, _, rfl⟩

/-- the marks of n numbers, the first m -/
def marksI (m n : Nat) : List Int := (List.range n).map fun j : Nat => ((m + j : Nat) : Int)
theorem marksI_len (m n : Nat) : (marksI m n).length = n := by simp [marksI]
theorem marksI_at {m n j : Nat} (h : j < n) : (marksI m n)[j]? = some ((m + j : Nat) : Int) := by simp [marksI, h]
theorem marksI_succ (m n : Nat) : marksI m (n + 1) = marksI m n ++ [((m + n : Nat) : Int)] := by simp [marksI, List.range_succ]
def markedI (m k : Nat) (l : List Int) : List Value := cellsI (marksI m k ++ l.drop k)
theorem markedI_zero (m : Nat) (l : List Int) : markedI m 0 l = cellsI l := by simp [markedI, marksI]
theorem markedI_all (m : Nat) (l : List Int) : markedI m l.length l = cellsI (marksI m l.length) := by simp [markedI]
theorem markedI_set (m k : Nat) (l : List Int) (hk : k < l.length) : (markedI m k l).set k (.int .i64 ((m + k : Nat) : Int)) = markedI m (k + 1) l := by
  unfold markedI cellsI
  rw [← List.map_set, marksI_succ]
  congr 1
  rw [List.set_append_right _ _ (by rw [marksI_len]; exact Nat.le_refl _), marksI_len, Nat.sub_self, List.drop_eq_getElem_cons hk, List.set_cons_zero, List.append_assoc]
  rfl

set_option maxHeartbeats 400000 in
theorem markIntS_any (v : Value) (l : List Int) (B m : Nat) (w : World) (h : w.ownsRow B 3 1 v l.length (cellsI l)) (hl : m + l.length ≤ 10000000) :
    Calls Tryd.prog 19 #[v, .int .i64 (m : Int)] w fun e w' => e = .returned (.int .i64 ((m + l.length : Nat) : Int)) ∧ w'.ownsRow B 3 1 v l.length (cellsI (marksI m l.length)) ∧ w.grownBy w' v.ownBlock := by
  obtain ⟨A, c, rfl⟩ := own_form h
  have h0 := h
  rw [← markedI_zero m l] at h0
  have H0 := Lib.hid h0
  clear h h0
  go_enter Tryd.func19, Tryd.ntmps19
  go_wp2_with fail
  go_loopw [1, 5] (fun q i wr => ∃ k : Nat, k ≤ l.length ∧ i = .int .i64 (k : Int) ∧ q = .int .i64 ((m + k : Nat) : Int) ∧ wr.ownsRow B 3 1 (.slice A l.length c) l.length (markedI m k l) ∧ w.grownBy wr (Value.slice A l.length c).ownBlock)
    (fun _ i _ => l.length - (intOf i).toNat)
  case atStart => exact ⟨0, Nat.zero_le _, rfl, rfl, H0.out, World.grownBy.refl _ _⟩
  case round =>
    obtain ⟨k, hk, rfl, rfl, hrow, hg⟩ := hrel
    by_cases hlt : k < l.length
    · obtain ⟨g, cap, hf⟩ : ∃ g cap, Value.slice A l.length c = .slice (some ⟨g, 0, none⟩) l.length cap := by
        rcases hrow.2 with ⟨hf, h0⟩ | ⟨g, cap, cur, hf, _⟩
        · omega
        · exact ⟨g, cap, hf⟩
      obtain ⟨rfl, rfl⟩ : A = some ⟨g, 0, none⟩ ∧ c = cap := by simpa using hf
      have hlt' : (k : Int) < (l.length : Int) := by omega
      have hlc : (markedI m k l).length = l.length := by have := hrow.1; omega
      obtain ⟨u, hu⟩ : ∃ u, (markedI m k l)[k]? = some u := ⟨_, List.getElem?_eq_getElem (by omega)⟩
      have f0 := hrow.cellAt k (by omega)
      rw [hu] at f0
      have z0 := hrow.frozenAt k
      have hst := (hrow.stored k (.int .i64 ((m + k : Nat) : Int))).1
      rw [markedI_set m k l hlt] at hst
      have HST := Lib.hid hst
      have HG := Lib.hid hg
      clear hst hu hf hrow hlc hg
      go_wp2_with fail
      go_roundw
      case rel => exact ⟨k + 1, by omega, by go_num, by go_num, HST.out, gset HG.out _ _⟩
      case measure => simp [intOf]; omega
    · obtain rfl : k = l.length := by omega
      rw [markedI_all] at hrow
      go_wp2_with fail
      go_ret
      exact ⟨rfl, hrow, hg⟩

set_option maxHeartbeats 400000 in
theorem heldIntS_any (v : Value) (n m : Nat) (w : World) (h : Ints w v (marksI m n)) (hl : m + n ≤ 10000000) :
    Calls Tryd.prog 20 #[v, .int .i64 (m : Int)] w fun e w' => e = .returned (.int .i64 ((m + n : Nat) : Int)) ∧ w = w' := by
  obtain ⟨A, c, rfl, hc⟩ := h.form
  have hle := marksI_len m n
  rw [hle] at *
  have HC := Lib.hid hc
  clear hc h hle
  go_enter Tryd.func20, Tryd.ntmps20
  go_wp2_with fail
  go_loop [1, 5] (fun q i => ∃ k : Nat, k ≤ n ∧ i = .int .i64 (k : Int) ∧ q = .int .i64 ((m + k : Nat) : Int)) (fun _ i => n - (intOf i).toNat)
  case atStart => exact ⟨0, Nat.zero_le _, rfl, rfl⟩
  case round =>
    obtain ⟨k, hk, rfl, rfl⟩ := hrel
    by_cases hlt : k < n
    · obtain ⟨g, o, rfl, c0⟩ := HC.out k _ (marksI_at hlt)
      have hlt' : (k : Int) < (n : Int) := by omega
      go_wp2_with fail
      go_round
      case rel => exact ⟨k + 1, by omega, by go_num, by go_num⟩
      case measure => simp [intOf]; omega
    · obtain rfl : k = n := by omega
      go_wp2_with fail
      go_ret
      exact ⟨rfl, rfl⟩

/-- the first k numbers, then noughts -/
def copiedI (l : List Int) (k : Nat) : List Value := cellsI (l.take k ++ List.replicate (l.length - k) 0)
theorem copiedI_all (l : List Int) : copiedI l l.length = cellsI l := by simp [copiedI]
theorem copiedI_zero (l : List Int) : copiedI l 0 = List.replicate l.length (.int .i64 0) := by simp [copiedI, cellsI]
theorem copiedI_set {l : List Int} {k : Nat} {x : Int} (h : l[k]? = some x) : (copiedI l k).set k (.int .i64 x) = copiedI l (k + 1) := by
  obtain ⟨hk, he⟩ := List.getElem?_eq_some_iff.1 h
  have hl : (l.take k).length = k := by rw [List.length_take]; omega
  unfold copiedI cellsI
  rw [← List.map_set, show l.length - k = (l.length - (k + 1)) + 1 from by omega, List.replicate_succ, List.set_append_right _ _ (by omega), hl, Nat.sub_self, List.set_cons_zero, List.take_add_one, h]
  simp

set_option maxHeartbeats 400000 in
theorem toIntS_any (v : Value) (l : List Int) (w : World) (h : Ints w v l) (hl : l.length ≤ 1048576) :
    Calls Tryd.prog 12 #[v] w fun e w' => ∃ A c, e = .returned (.slice A l.length c) ∧ w'.ownsRow w.heap.size 3 1 (.slice A l.length c) l.length (cellsI l) ∧ Below w.heap.size w w' := by
  obtain ⟨A, c, rfl, hc⟩ := h.form
  obtain ⟨i0, hi, hz0, hz1, hz2⟩ := info_parts infoInt
  have hmk := run_make_rowN (P := Tryd.prog) 25 3 i0 (.int .i64 0) Tryd.underlying25 hi hz0 .i64 .i64 l.length l.length (Nat.le_refl _) (by rw [hz2]; omega) (by omega)
  have hown := World.ownsRow_lit (base := w.heap.size) (e := 3) (size := 1) w (madeCells #[Value.int .i64 0] (l.length * 1)) l.length (Nat.le_refl _) (by unfold maxLen; omega) (size_madeCells _ _)
  rw [toList_madeCells_one, Nat.mul_one, ← copiedI_zero] at hown
  have HOWN := Lib.hid hown
  have HC := Lib.hid hc
  clear hown hc
  go_enter Tryd.func12, Tryd.ntmps12
  go_wp2_with fail
  go_loopw [4] (fun i wr => ∃ k : Nat, k ≤ l.length ∧ i = .int .i64 (k : Int) ∧ wr.ownsRow w.heap.size 3 1 (.slice (some ⟨w.heap.size, 0, none⟩) l.length l.length) l.length (copiedI l k) ∧ Below w.heap.size w wr)
    (fun i _ => l.length - (intOf i).toNat)
  case atStart => exact ⟨0, Nat.zero_le _, rfl, HOWN.out, (Below.refl _ _).alloc (Nat.le_refl _) _⟩
  case round =>
    obtain ⟨k, hk, rfl, hrow, hB⟩ := hrel
    by_cases hlt : k < l.length
    · obtain ⟨x, hx⟩ : ∃ x, l[k]? = some x := ⟨_, List.getElem?_eq_getElem hlt⟩
      obtain ⟨g, o, rfl, c0⟩ := HC.out k x hx
      have hlt' : (k : Int) < (l.length : Int) := by omega
      have d0 : wr.cell? ⟨g, o + k, none⟩ = some (.int .i64 x) := (hB.cell (p := ⟨g, o + k, none⟩) (World.block_lt_of_cell? w (a := ⟨g, o + k, none⟩) c0)).trans c0
      have hlc : (copiedI l k).length = l.length := by have := hrow.1; omega
      obtain ⟨u, hu⟩ : ∃ u, (copiedI l k)[k]? = some u := ⟨_, List.getElem?_eq_getElem (by omega)⟩
      have f0 := hrow.cellAt k (by omega)
      rw [hu] at f0
      have z0 := hrow.frozenAt k
      have hst := (hrow.stored k (.int .i64 x)).1
      rw [copiedI_set hx] at hst
      have HST := Lib.hid hst
      have HB := Lib.hid hB
      clear hst hu hrow hB hlc hx c0
      go_wp2_with fail
      go_roundw
      case rel => exact ⟨k + 1, by omega, by go_num, HST.out, HB.out.setCell (Nat.le_refl _) _⟩
      case measure => simp [intOf]; omega
    · obtain rfl : k = l.length := by omega
      rw [copiedI_all] at hrow
      go_wp2_with fail
      go_ret
      exact ⟨_, _, rfl, hrow, hB⟩
end Go.Proofs.YtdhbaegkogklgaaDoor.ints

/- The contracts of the model's l2Near and l2Node and of the program's hasNodes. -/
namespace Go.Proofs.YtdhbaegkogklgaaDoor.adjs
open Go.RowKit P2 words edges good near

def Hit (e : Ed) (a b : Int) : Prop := (e.1 = a ∧ e.2 = b) ∨ (e.1 = b ∧ e.2 = a)
def NoHit (l : List Ed) (a b : Int) (k : Nat) : Prop := ∀ j e, j < k → l[j]? = some e → ¬ Hit e a b
theorem adj_hit {l : List Ed} {a b : Int} {e : Ed} (h : e ∈ l) (hh : Hit e a b) : adj l a b = true := by
  unfold adj
  rw [decide_eq_true_iff]
  obtain ⟨e1, e2⟩ := e
  rcases hh with ⟨rfl, rfl⟩ | ⟨rfl, rfl⟩
  · exact .inl h
  · exact .inr h
theorem adj_nohit {l : List Ed} {a b : Int} (h : NoHit l a b l.length) : adj l a b = false := by
  unfold adj
  rw [decide_eq_false_iff_not]
  rintro (h1 | h1)
  · obtain ⟨j, hj⟩ := List.getElem?_of_mem h1
    exact h j _ (List.getElem?_eq_some_iff.1 hj).1 hj (.inl ⟨rfl, rfl⟩)
  · obtain ⟨j, hj⟩ := List.getElem?_of_mem h1
    exact h j _ (List.getElem?_eq_some_iff.1 hj).1 hj (.inr ⟨rfl, rfl⟩)
theorem NoHit.succ {l : List Ed} {a b : Int} {k : Nat} {e : Ed} (h : NoHit l a b k) (he : l[k]? = some e) (hh : ¬ Hit e a b) : NoHit l a b (k + 1) := fun j x hj hx => by
  by_cases ej : j = k
  · subst ej; rw [he] at hx; cases hx; exact hh
  · exact h j x (by omega) hx
theorem near_cases (e : Ed) (a b : Int) :
    (Hit e a b ∧ (((e.1 == a) = true ∧ (e.2 == b) = true) ∨ ((e.1 == a) = false ∧ (e.1 == b) = true ∧ (e.2 == a) = true))) ∨
    (¬ Hit e a b ∧ (((e.1 == a) = true ∧ (e.2 == b) = false ∧ (e.1 == b) = true ∧ (e.2 == a) = false) ∨ ((e.1 == a) = true ∧ (e.2 == b) = false ∧ (e.1 == b) = false) ∨
      ((e.1 == a) = false ∧ (e.1 == b) = true ∧ (e.2 == a) = false) ∨ ((e.1 == a) = false ∧ (e.1 == b) = false))) := by
  unfold Hit
  simp only [beq_iff_eq, beq_eq_false_iff_ne]
  omega

set_option maxHeartbeats 2000000 in
theorem l2Near_any (s a b : Int) (v : Value) (l : List Ed) (w : World) (h : Edges w v l) (hl : l.length ≤ 1048576) :
    Calls Tryd.prog 134 #[.agg #[.int .i64 s, v], .int .i64 a, .int .i64 b] w fun e w' => e = .returned (.bool (adj l a b)) ∧ Below w.heap.size w w' := by
  have hbx := Blk.new w 29 #[.int .i64 s, v]
  have hb1 : Below w.heap.size w (w.alloc (.cells #[.int .i64 s, v] 29)) := (Below.refl _ _).alloc (Nat.le_refl _) _
  obtain ⟨A, c, rfl, hc⟩ := h.form
  have HC := Lib.hid hc
  clear h hc
  go_enter Tryd.func134, Tryd.ntmps134
  go_wp2_with fail
  go_loopw [7] (fun i wr => ∃ k : Nat, k ≤ l.length ∧ i = .int .i64 (k : Int) ∧ Hid (NoHit l a b k) ∧ Blk wr w.heap.size 29 #[.int .i64 s, .slice A l.length c] ∧ Below w.heap.size w wr) (fun i _ => l.length - (intOf i).toNat)
  case atStart => exact ⟨0, Nat.zero_le _, rfl, fun j e h => by omega, hbx, hb1⟩
  case round =>
    obtain ⟨k, hk, rfl, hno, hbk, hB⟩ := hrel
    obtain ⟨p0, p1, z0, z1⟩ := hbk.two
    have hsz : w.heap.size < wr.heap.size := hbk.lt
    by_cases hlt : k < l.length
    · obtain ⟨x, hx⟩ : ∃ x, l[k]? = some x := ⟨_, List.getElem?_eq_getElem hlt⟩
      obtain ⟨g, o, rfl, c0, c1⟩ := HC.out k x hx
      have hlt' : (k : Int) < (l.length : Int) := by omega
      have q0 : wr.cell? ⟨g, o + k * 2, none⟩ = some (.int .i64 x.1) := (hB.cell (p := ⟨g, o + k * 2, none⟩) (World.block_lt_of_cell? w (a := ⟨g, o + k * 2, none⟩) c0)).trans c0
      have q1 : wr.cell? ⟨g, o + k * 2 + 1, none⟩ = some (.int .i64 x.2) := (hB.cell (p := ⟨g, o + k * 2 + 1, none⟩) (World.block_lt_of_cell? w (a := ⟨g, o + k * 2 + 1, none⟩) c1)).trans c1
      have HBK := Lib.hid hbk
      clear hbk c0 c1
      rcases near_cases x a b with ⟨hh, hcs⟩ | ⟨hh, hcs⟩
      · have HA := Lib.hid (adj_hit (List.mem_of_getElem? hx) hh)
        clear hx hh
        obtain ⟨x1, x2⟩ := x
        rcases hcs with ⟨d1, d2⟩ | ⟨d1, d2, d3⟩
        all_goals
          simp only at d1 d2
          try simp only at d3
          go_wp2_with fail
          go_ret
          exact ⟨ret_bool HA.out.symm, hB.alloc (by omega) _⟩
      · have HA := Lib.hid (hno.out.succ hx hh)
        clear hx hh
        obtain ⟨x1, x2⟩ := x
        rcases hcs with ⟨d1, d2, d3, d4⟩ | ⟨d1, d2, d3⟩ | ⟨d1, d2, d3⟩ | ⟨d1, d2⟩
        all_goals
          simp only at d1 d2
          try simp only at d3
          try simp only at d4
          go_wp2_with fail
          go_roundw
          case rel => exact ⟨k + 1, by omega, by go_num, HA, HBK.out.alloc _, hB.alloc (by omega) _⟩
          case measure => simp [intOf]; omega
    · have HA : Hid (adj l a b = false) := adj_nohit (by have := hno.out; rwa [show k = l.length from by omega] at this)
      go_wp2_with fail
      go_ret
      exact ⟨ret_bool HA.out.symm, hB⟩

theorem l2Node_any (s x : Int) (v : Value) (l : List Ed) (w : World) (h : Edges w v l) (h0 : 0 ≤ s) (h8 : s ≤ 8) :
    Calls Tryd.prog 56 #[.agg #[.int .i64 s, v], .int .i64 x] w fun e w' => e = .returned (.bool (inB x 0 (s - 1))) ∧ Below w.heap.size w w' := by
  obtain ⟨A, c, rfl, -⟩ := h.form
  clear h
  go_enter Tryd.func56, Tryd.ntmps56
  go_wp2_with (go_at_call 86; refine (l1In_any _ _ _ _).mono ?_; rintro e w' ⟨rfl, rfl⟩)
  go_ret
  exact ⟨rfl, (Below.refl _ _).alloc (Nat.le_refl _) _⟩

/-- the Graph is valid and has all of the nodes -/
noncomputable def nodesB (s : Int) (l : List Ed) (xs : List Int) : Bool := @decide (P2.Good s l ∧ ∀ x ∈ xs, 0 ≤ x ∧ x < s) (Classical.propDecidable _)
theorem nodesB_yes {s : Int} {l : List Ed} {xs : List Int} (h : P2.Good s l) (hx : ∀ x ∈ xs, 0 ≤ x ∧ x < s) : nodesB s l xs = true := by
  unfold nodesB; exact @decide_eq_true _ (Classical.propDecidable _) ⟨h, hx⟩
theorem nodesB_iff {s : Int} {l : List Ed} {xs : List Int} : nodesB s l xs = true ↔ P2.Good s l ∧ ∀ x ∈ xs, 0 ≤ x ∧ x < s := by
  unfold nodesB; exact @decide_eq_true_iff _ (Classical.propDecidable _)
theorem nodesB_no {s : Int} {l : List Ed} {xs : List Int} (h : ¬ (P2.Good s l ∧ ∀ x ∈ xs, 0 ≤ x ∧ x < s)) : nodesB s l xs = false := by
  unfold nodesB; exact @decide_eq_false _ (Classical.propDecidable _) h

set_option maxHeartbeats 1000000 in
theorem hasNodes_any (s : Int) (v u : Value) (l : List Ed) (xs : List Int) (w : World) (h : Edges w v l) (hl : l.length ≤ 1048576) (hu : Ints w u xs) (hxl : xs.length ≤ 1048576) :
    Calls Tryd.prog 62 #[.agg #[.int .i64 s, v], u] w fun e w' => e = .returned (.bool (nodesB s l xs)) ∧ Below w.heap.size w w' := by
  have hb1 : Below w.heap.size w (w.alloc (.cells #[.int .i64 s, v] 29)) := (Below.refl _ _).alloc (Nat.le_refl _) _
  have hbx := Blk.new w 29 #[.int .i64 s, v]
  have HG := Lib.hid (implIsGraph_any s v l _ (h.below hb1) hl)
  obtain ⟨A, c, rfl, -⟩ := h.form
  obtain ⟨A2, c2, rfl, hc⟩ := hu.form
  have HC := Lib.hid hc
  clear h hu hc
  by_cases hg : P2.Good s l
  · rw [goodB_yes hg] at HG
    have h0 := hg.1
    have h8 := hg.2.1
    have HGD := Lib.hid hg
    clear hg
    go_enter Tryd.func62, Tryd.ntmps62
    go_wp2_with fail
    refine HG.out.mono ?_
    rintro e w1 ⟨rfl, b1⟩
    have hB1 := btrans hb1 b1
    have hbx1 := hbx.below b1 hbx.lt
    obtain ⟨p0, p1, -, -⟩ := hbx1.two
    clear hbx hbx1 hb1 HG b1
    go_wp2_with fail
    go_loop [12] (fun i => ∃ k : Nat, k ≤ xs.length ∧ i = .int .i64 (k : Int) ∧ Hid (∀ j x, j < k → xs[j]? = some x → 0 ≤ x ∧ x < s)) (fun i => xs.length - (intOf i).toNat)
    case atStart => exact ⟨0, Nat.zero_le _, rfl, fun j e h => by omega⟩
    case round =>
      obtain ⟨k, hk, rfl, hok⟩ := hrel
      by_cases hlt : k < xs.length
      · obtain ⟨x, hx⟩ : ∃ x, xs[k]? = some x := ⟨_, List.getElem?_eq_getElem hlt⟩
        obtain ⟨g, o, rfl, c0⟩ := HC.out k x hx
        have hlt' : (k : Int) < (xs.length : Int) := by omega
        have q0 : w1.cell? ⟨g, o + k, none⟩ = some (.int .i64 x) := (hB1.cell (p := ⟨g, o + k, none⟩) (World.block_lt_of_cell? w (a := ⟨g, o + k, none⟩) c0)).trans c0
        clear c0
        by_cases hx0 : x < 0
        · have HN := Lib.hid (nodesB_no (s := s) (l := l) (xs := xs) (fun H => by have := H.2 x (List.mem_of_getElem? hx); omega))
          have d0 : decide (x < 0) = true := by simpa using hx0
          clear hx
          go_wp2_with fail
          go_ret
          exact ⟨ret_bool HN.out.symm, hB1⟩
        · have d0 : decide (x < 0) = false := by simpa using hx0
          by_cases hxs : s ≤ x
          · have HN := Lib.hid (nodesB_no (s := s) (l := l) (xs := xs) (fun H => by have := H.2 x (List.mem_of_getElem? hx); omega))
            have d1 : decide (s ≤ x) = true := by simpa using hxs
            clear hx
            go_wp2_with fail
            go_ret
            exact ⟨ret_bool HN.out.symm, hB1⟩
          · have HK : Hid (∀ j x, j < k + 1 → xs[j]? = some x → 0 ≤ x ∧ x < s) := fun j y hj hy => by
              by_cases e : j = k
              · subst e; rw [hx] at hy; cases hy; omega
              · exact hok.out j y (by omega) hy
            have d1 : decide (s ≤ x) = false := by simpa using hxs
            clear hx
            go_wp2_with fail
            go_round
            case rel => exact ⟨k + 1, by omega, by go_num, HK⟩
            case measure => simp [intOf]; omega
      · have HN := Lib.hid (nodesB_yes (s := s) (l := l) (xs := xs) HGD.out (fun x hx => by
          obtain ⟨j, hj⟩ := List.getElem?_of_mem hx
          exact hok.out j x (by have := (List.getElem?_eq_some_iff.1 hj).1; omega) hj))
        go_wp2_with fail
        go_ret
        exact ⟨ret_bool HN.out.symm, hB1⟩
  · rw [goodB_no hg] at HG
    rw [nodesB_no (fun H => hg H.1)]
    clear hg
    go_enter Tryd.func62, Tryd.ntmps62
    go_wp2_with fail
    refine HG.out.mono ?_
    rintro e w1 ⟨rfl, b1⟩
    go_wp2_with fail
    go_ret
    exact ⟨rfl, btrans hb1 b1⟩
end Go.Proofs.YtdhbaegkogklgaaDoor.adjs

/- Function values that test numbers, and what graphWhere and nodesWhere make of them. -/
namespace Go.Proofs.YtdhbaegkogklgaaDoor.fns
open Go.RowKit P2 words edges ints

/-- a function value that answers for two numbers less than n, the first one less, in every world that goes on from w -/
structure Fn2 (w : World) (f : FuncId) (caps : Array Value) (n : Nat) (J : Nat → Nat → Bool) : Prop where
  enter : ∀ (args : Array Value) (W : World), (callFunc f args).run Tryd.prog W = .ok (.enter f args) W
  call : ∀ W, Below w.heap.size w W → ∀ x y : Nat, x < y → y < n → Calls Tryd.prog f (#[.int .i64 (x : Int), .int .i64 (y : Int)] ++ caps) W fun e W' => e = .returned (.bool (J x y)) ∧ Below W.heap.size W W'
structure Fn1 (w : World) (f : FuncId) (caps : Array Value) (n : Nat) (p : Nat → Bool) : Prop where
  enter : ∀ (args : Array Value) (W : World), (callFunc f args).run Tryd.prog W = .ok (.enter f args) W
  call : ∀ W, Below w.heap.size w W → ∀ x : Nat, x < n → Calls Tryd.prog f (#[.int .i64 (x : Int)] ++ caps) W fun e W' => e = .returned (.bool (p x)) ∧ Below W.heap.size W W'

/-- behind an append of one number, or of one edge -/
theorem push1 {w1 w2 : World} {B : Nat} {s v2 : Value} {m : List Int} {x : Int} {o : Obj} (hrow : w1.ownsRow B 3 1 s m.length (cellsI m)) (hown : w2.ownsRow B 3 1 v2 (m.length + 1) (cellsI m ++ [.int .i64 x]))
    (hg : (w1.alloc o).grownBy w2 s.ownBlock) (hB : B ≤ w1.heap.size) : w2.ownsRow B 3 1 v2 (m ++ [x]).length (cellsI (m ++ [x])) ∧ Below B w1 w2 :=
  ⟨by rw [cellsI_app, List.length_append]; exact hown, ((Below.refl B w1).alloc hB _).grown hg (by simp; omega) (fun j e => (hrow.lt j e).1)⟩
theorem pushE {w1 w2 : World} {B : Nat} {s v2 : Value} {m : List Ed} {a b : Int} {o : Obj} (hrow : w1.ownsRow B 111 2 s m.length (cellsE m)) (hown : w2.ownsRow B 111 2 v2 (m.length + 1) (cellsE m ++ [.int .i64 a, .int .i64 b]))
    (hg : (w1.alloc o).grownBy w2 s.ownBlock) (hB : B ≤ w1.heap.size) : w2.ownsRow B 111 2 v2 (m ++ [(a, b)]).length (cellsE (m ++ [(a, b)])) ∧ Below B w1 w2 :=
  ⟨by rw [cellsE_app, List.length_append]; exact hown, ((Below.refl B w1).alloc hB _).grown hg (by simp; omega) (fun j e => (hrow.lt j e).1)⟩
/-- the numbers less than k for which a test holds -/
def nw (p : Nat → Bool) (k : Nat) : List Int := ((List.range k).filter p).map fun x : Nat => (x : Int)
theorem nw_zero (p : Nat → Bool) : nw p 0 = [] := rfl
theorem nw_yes {p : Nat → Bool} {k : Nat} (h : p k = true) : nw p (k + 1) = nw p k ++ [(k : Int)] := by
  unfold nw
  rw [List.range_succ, List.filter_append, List.map_append]
  simp [h]
theorem nw_no {p : Nat → Bool} {k : Nat} (h : p k = false) : nw p (k + 1) = nw p k := by
  unfold nw
  rw [List.range_succ, List.filter_append, List.map_append]
  simp [h]
theorem nw_len (p : Nat → Bool) (k : Nat) : (nw p k).length ≤ k := by
  unfold nw
  rw [List.length_map]
  have := List.length_filter_le p (List.range k)
  simpa using this
theorem mem_nw {p : Nat → Bool} {k : Nat} {x : Int} : x ∈ nw p k ↔ ∃ j : Nat, j < k ∧ p j = true ∧ x = (j : Int) := by
  unfold nw
  simp only [List.mem_map, List.mem_filter, List.mem_range]
  constructor
  · rintro ⟨j, ⟨h1, h2⟩, rfl⟩; exact ⟨j, h1, h2, rfl⟩
  · rintro ⟨j, h1, h2, rfl⟩; exact ⟨j, ⟨h1, h2⟩, rfl⟩

set_option maxHeartbeats 1000000 in
theorem nodesWhere_any (n : Nat) (f : FuncId) (caps : Array Value) (p : Nat → Bool) (w : World) (hn : n ≤ 8) (h : Fn1 w f caps n p) :
    Calls Tryd.prog 48 #[.int .i64 (n : Int), .func (.func f) #[] caps] w fun e w' => ∃ A c, e = .returned (.slice A (nw p n).length c) ∧
      w'.ownsRow w.heap.size 3 1 (.slice A (nw p n).length c) (nw p n).length (cellsI (nw p n)) ∧ Below w.heap.size w w' := by
  obtain ⟨i0, hi, hz0, hz1, hz2⟩ := info_parts infoInt
  have hent := h.enter
  have HC := Lib.hid h.call
  clear h
  go_enter Tryd.func48, Tryd.ntmps48
  go_wp2_with fail
  go_loopw [5, 8] (fun s i wr => ∃ k : Nat, k ≤ n ∧ i = .int .i64 (k : Int) ∧ wr.ownsRow w.heap.size 3 1 s (nw p k).length (cellsI (nw p k)) ∧ Below w.heap.size w wr) (fun _ i _ => n - (intOf i).toNat)
  case atStart => exact ⟨0, Nat.zero_le _, rfl, World.ownsRow_nil _ _ _ _, Below.refl _ _⟩
  case round =>
    obtain ⟨k, hk, rfl, hrow, hB⟩ := hrel
    have hlen := nw_len p k
    by_cases hlt : k < n
    · have hlt' : (k : Int) < (n : Int) := by omega
      have HCk := HC.out
      have HP := Lib.hid (fun (W : World) (hb : Below w.heap.size w W) => HCk W hb k hlt)
      clear HCk
      have hsz := hB.size
      by_cases hp : p k = true
      · have HN := Lib.hid (nw_yes hp)
        rw [hp] at HP
        clear hp
        generalize nw p k = l at *
        go_wp2_with fail
        refine (HP.out _ hB).mono ?_
        rintro e w1 ⟨rfl, hb⟩
        have hrow1 := own_below hrow hb
        have hB1 := hB.trans (hb.mono hsz)
        have hsz1 := hB1.size
        clear hrow
        go_wp2_with (at_builtin; refine wpList_append_own _ rfl _ _ 25 rfl w.heap.size 3 i0 (.int .i64 0) 1 8 Tryd.underlying25 hi hz0 hz1 hz2 rfl (by decide) _ _ _ rfl (hrow1.alloc _) ⟨w1.heap.size, 0, none⟩ 1 1 [.int .i64 (k : Int)] rfl rfl (cell_one_new _ _ _) (fun x hx => by simp at hx; subst hx; rfl) (by unfold maxLen; omega) (by omega) (by simp; omega) ?_; intro v2 w2 hown2 hgrow2 _)
        have hB2 : Below w.heap.size w w2 := (hB1.alloc hsz1 _).grown hgrow2 (by simp; omega) (fun j e => (hrow1.lt j e).1)
        clear hgrow2 hrow1
        go_roundw
        case rel => exact ⟨k + 1, by omega, by go_num, by rw [HN.out, cellsI_app, List.length_append]; exact hown2, hB2⟩
        case measure => simp [intOf]; omega
      · have hp' : p k = false := by simpa using hp
        have HN := Lib.hid (nw_no hp')
        rw [hp'] at HP
        clear hp hp'
        go_wp2_with fail
        refine (HP.out _ hB).mono ?_
        rintro e w1 ⟨rfl, hb⟩
        have hrow1 := own_below hrow hb
        have hB1 := hB.trans (hb.mono hsz)
        clear hrow
        go_wp2_with fail
        go_roundw
        case rel => exact ⟨k + 1, by omega, by go_num, by rw [HN.out]; exact hrow1, hB1⟩
        case measure => simp [intOf]; omega
    · obtain rfl : k = n := by omega
      obtain ⟨A, c, rfl⟩ := own_form hrow
      go_wp2_with fail
      go_ret
      exact ⟨A, c, rfl, hrow, hB⟩
end Go.Proofs.YtdhbaegkogklgaaDoor.fns

/- What a function returns that may fail: a Graph and true, a list and true, or zero values and false. -/
namespace Go.Proofs.YtdhbaegkogklgaaDoor.rets
open Go.RowKit P2 words

noncomputable def okG (p : Prop) : Bool := @decide p (Classical.propDecidable _)
noncomputable def szG (p : Prop) (n : Int) : Int := if okG p = true then n else 0
noncomputable def edG (p : Prop) (l : List Ed) : List Ed := if okG p = true then l else []
noncomputable def inG (p : Prop) (l : List Int) : List Int := if okG p = true then l else []
theorem okG_yes {p : Prop} (h : p) : okG p = true := @decide_eq_true _ (Classical.propDecidable _) h
theorem okG_no {p : Prop} (h : ¬ p) : okG p = false := @decide_eq_false _ (Classical.propDecidable _) h
theorem okG_iff {p : Prop} : okG p = true ↔ p := @decide_eq_true_iff _ (Classical.propDecidable _)
theorem szG_yes {p : Prop} (h : p) (n : Int) : szG p n = n := by unfold szG; rw [okG_yes h]; rfl
theorem szG_no {p : Prop} (h : ¬ p) (n : Int) : szG p n = 0 := by unfold szG; rw [okG_no h]; rfl
theorem edG_yes {p : Prop} (h : p) (l : List Ed) : edG p l = l := by unfold edG; rw [okG_yes h]; rfl
theorem edG_no {p : Prop} (h : ¬ p) (l : List Ed) : edG p l = [] := by unfold edG; rw [okG_no h]; rfl
theorem inG_yes {p : Prop} (h : p) (l : List Int) : inG p l = l := by unfold inG; rw [okG_yes h]; rfl
theorem inG_no {p : Prop} (h : ¬ p) (l : List Int) : inG p l = [] := by unfold inG; rw [okG_no h]; rfl
theorem edG_len {p : Prop} {l : List Ed} {k : Nat} (h : p → l.length ≤ k) : (edG p l).length ≤ k := by
  by_cases hp : p
  · rw [edG_yes hp]; exact h hp
  · rw [edG_no hp]; exact Nat.zero_le _
theorem inG_len {p : Prop} {l : List Int} {k : Nat} (h : p → l.length ≤ k) : (inG p l).length ≤ k := by
  by_cases hp : p
  · rw [inG_yes hp]; exact h hp
  · rw [inG_no hp]; exact Nat.zero_le _
theorem edG_congr {p q : Prop} {l m : List Ed} (h : p ↔ q) (hl : p → l = m) : edG p l = edG q m := by
  by_cases hp : p
  · rw [edG_yes hp, edG_yes (h.1 hp), hl hp]
  · rw [edG_no hp, edG_no (fun hq => hp (h.2 hq))]
theorem inG_congr {p q : Prop} {l m : List Int} (h : p ↔ q) (hl : p → l = m) : inG p l = inG q m := by
  by_cases hp : p
  · rw [inG_yes hp, inG_yes (h.1 hp), hl hp]
  · rw [inG_no hp, inG_no (fun hq => hp (h.2 hq))]

/-- a Graph and true where p holds, or zero values and false -/
def RetG (w : World) (p : Prop) (n : Int) (l : List Ed) (e : Ending) (w' : World) : Prop :=
  ∃ A c, e = .returned (.tuple #[.agg #[.int .i64 (szG p n), .slice A (edG p l).length c], .bool (okG p)]) ∧
    w'.ownsRow w.heap.size 111 2 (.slice A (edG p l).length c) (edG p l).length (cellsE (edG p l)) ∧ Below w.heap.size w w'
theorem RetG.yes {w w' : World} {p : Prop} {n : Int} {l : List Ed} {A : Option Addr} {c : Nat} (hp : p) (ho : w'.ownsRow w.heap.size 111 2 (.slice A l.length c) l.length (cellsE l)) (hb : Below w.heap.size w w') :
    RetG w p n l (.returned (.tuple #[.agg #[.int .i64 n, .slice A l.length c], .bool true])) w' := by
  refine ⟨A, c, ?_, ?_, hb⟩
  · rw [szG_yes hp, edG_yes hp, okG_yes hp]
  · rw [edG_yes hp]; exact ho
theorem RetG.no {w w' : World} {p : Prop} {n : Int} {l : List Ed} (hp : ¬ p) (hb : Below w.heap.size w w') :
    RetG w p n l (.returned (.tuple #[.agg #[.int .i64 0, .slice none 0 0], .bool false])) w' := by
  refine ⟨none, 0, ?_, ?_, hb⟩
  · rw [szG_no hp, edG_no hp, okG_no hp]; rfl
  · rw [edG_no hp]; exact World.ownsRow_nil _ _ _ _
theorem RetG.congr {w w' : World} {p q : Prop} {n m : Int} {l k : List Ed} {e : Ending} (h : RetG w p n l e w') (hp : p ↔ q) (hn : p → n = m) (hl : p → l = k) : RetG w q m k e w' := by
  by_cases h0 : p
  · obtain rfl := hn h0
    obtain rfl := hl h0
    rw [show q = p from (propext hp).symm]; exact h
  · have e1 : RetG w p n l = RetG w q m k := by
      funext e w'
      unfold RetG
      rw [szG_no h0, edG_no h0, okG_no h0, szG_no (fun hq => h0 (hp.2 hq)), edG_no (fun hq => h0 (hp.2 hq)), okG_no (fun hq => h0 (hp.2 hq))]
    rw [← e1]; exact h
/-- a list of numbers and true where p holds, or zero values and false -/
def RetI (w : World) (p : Prop) (l : List Int) (e : Ending) (w' : World) : Prop :=
  ∃ A c, e = .returned (.tuple #[.slice A (inG p l).length c, .bool (okG p)]) ∧
    w'.ownsRow w.heap.size 3 1 (.slice A (inG p l).length c) (inG p l).length (cellsI (inG p l)) ∧ Below w.heap.size w w'
theorem RetI.yes {w w' : World} {p : Prop} {l : List Int} {A : Option Addr} {c : Nat} (hp : p) (ho : w'.ownsRow w.heap.size 3 1 (.slice A l.length c) l.length (cellsI l)) (hb : Below w.heap.size w w') :
    RetI w p l (.returned (.tuple #[.slice A l.length c, .bool true])) w' := by
  refine ⟨A, c, ?_, ?_, hb⟩
  · rw [inG_yes hp, okG_yes hp]
  · rw [inG_yes hp]; exact ho
theorem RetI.no {w w' : World} {p : Prop} {l : List Int} {A : Option Addr} {c : Nat} (hp : ¬ p) (ho : w'.ownsRow w.heap.size 3 1 (.slice A 0 c) 0 []) (hb : Below w.heap.size w w') :
    RetI w p l (.returned (.tuple #[.slice A 0 c, .bool false])) w' := by
  refine ⟨A, c, ?_, ?_, hb⟩
  · rw [inG_no hp, okG_no hp]; rfl
  · rw [inG_no hp]; exact ho
theorem RetI.nil {w w' : World} {p : Prop} {l : List Int} (hp : ¬ p) (hb : Below w.heap.size w w') : RetI w p l (.returned (.tuple #[.slice none 0 0, .bool false])) w' :=
  RetI.no hp (World.ownsRow_nil _ _ _ _) hb
theorem RetI.congr {w w' : World} {p q : Prop} {l k : List Int} {e : Ending} (h : RetI w p l e w') (hp : p ↔ q) (hl : p → l = k) : RetI w q k e w' := by
  by_cases h0 : p
  · obtain rfl := hl h0
    rw [show q = p from (propext hp).symm]; exact h
  · have e1 : RetI w p l = RetI w q k := by
      funext e w'
      unfold RetI
      rw [inG_no h0, okG_no h0, inG_no (fun hq => h0 (hp.2 hq)), okG_no (fun hq => h0 (hp.2 hq))]
    rw [← e1]; exact h
end Go.Proofs.YtdhbaegkogklgaaDoor.rets

/- Sets of nodes: lists in ascending order, and the contracts of hasSet, l1Rising, l2Set, l2Bits, l2All, l2Without. -/
namespace Go.Proofs.YtdhbaegkogklgaaDoor.sets
open Go.RowKit P2 words edges ints good adjs fns rets
set_option linter.unusedVariables false

/-- a new list of numbers is returned -/
def RowI (w : World) (l : List Int) (e : Ending) (w' : World) : Prop :=
  ∃ A c, e = .returned (.slice A l.length c) ∧ w'.ownsRow w.heap.size 3 1 (.slice A l.length c) l.length (cellsI l) ∧ Below w.heap.size w w'
theorem RowI.below {w w' : World} {l : List Int} {e : Ending} (h : RowI w l e w') : Below w.heap.size w w' := by
  obtain ⟨A, c, _, _, h⟩ := h; exact h
/-- a cell that a callee keeps, said anew behind it -/
theorem keepb {P : Program} {f : FuncId} {args : Array Value} {W : World} {R : Ending → World → Prop} {p : Addr} {a : Value}
    (h : Calls P f args W R) (hb : ∀ e w', R e w' → Below W.heap.size W w') (hp : W.cell? p = some a) : Calls P f args W fun e w' => R e w' ∧ w'.cell? p = some a :=
  h.mono fun e w' hr => ⟨hr, ((hb e w' hr).cell (World.block_lt_of_cell? W _ hp)).trans hp⟩
theorem keepb2 {P : Program} {f : FuncId} {args : Array Value} {W : World} {R : Ending → World → Prop} {p q : Addr} {a b : Value}
    (h : Calls P f args W R) (hb : ∀ e w', R e w' → Below W.heap.size W w') (hp : W.cell? p = some a) (hq : W.cell? q = some b) : Calls P f args W fun e w' => R e w' ∧ w'.cell? p = some a ∧ w'.cell? q = some b :=
  h.mono fun e w' hr => ⟨hr, ((hb e w' hr).cell (World.block_lt_of_cell? W _ hp)).trans hp, ((hb e w' hr).cell (World.block_lt_of_cell? W _ hq)).trans hq⟩

/-- ascending -/
def Asc (l : List Int) : Prop := l.Pairwise (· < ·)
def AscTo (l : List Int) (k : Nat) : Prop := ∀ j x y, j + 1 < k → l[j]? = some x → l[j + 1]? = some y → x < y
theorem AscTo.start (l : List Int) (k : Nat) (h : k ≤ 1) : AscTo l k := fun j _ _ hj => by omega
theorem AscTo.succ {l : List Int} {k : Nat} (h : AscTo l (k + 1)) (hk : ∀ x y, l[k]? = some x → l[k + 1]? = some y → x < y) : AscTo l (k + 1 + 1) := fun j x y hj hx hy => by
  by_cases e : j = k
  · subst e; exact hk x y hx hy
  · exact h j x y (by omega) hx hy
theorem AscTo.pair {l : List Int} (h : AscTo l l.length) : ∀ (i j : Nat) (a b : Int), i < j → l[i]? = some a → l[j]? = some b → a < b := by
  intro i j a b hij ha hb
  induction j generalizing b with
  | zero => omega
  | succ j ih =>
    have hj : j + 1 < l.length := (List.getElem?_eq_some_iff.1 hb).1
    obtain ⟨d, hd⟩ : ∃ d, l[j]? = some d := ⟨_, List.getElem?_eq_getElem (by omega)⟩
    have h1 := h j d b hj hd hb
    by_cases e : i = j
    · subst e; rw [ha] at hd; cases hd; exact h1
    · have := ih d (by omega) hd; omega
theorem AscTo.asc {l : List Int} (h : AscTo l l.length) : Asc l := by
  unfold Asc
  rw [List.pairwise_iff_getElem]
  intro i j hi hj hij
  exact h.pair i j _ _ hij (List.getElem?_eq_getElem hi) (List.getElem?_eq_getElem hj)
theorem Asc.at_ {l : List Int} (h : Asc l) {i j : Nat} {a b : Int} (hij : i < j) (ha : l[i]? = some a) (hb : l[j]? = some b) : a < b := by
  unfold Asc at h
  rw [List.pairwise_iff_getElem] at h
  have ha' := List.getElem?_eq_some_iff.1 ha
  have hb' := List.getElem?_eq_some_iff.1 hb
  have := h i j ha'.1 hb'.1 hij
  rw [ha'.2, hb'.2] at this
  exact this
theorem Asc.to {l : List Int} (h : Asc l) (k : Nat) : AscTo l k := fun j x y _ hx hy => h.at_ (Nat.lt_succ_self j) hx hy
theorem not_asc {l : List Int} {k : Nat} {x y : Int} (hx : l[k]? = some x) (hy : l[k + 1]? = some y) (h : y ≤ x) : ¬ Asc l := fun ha => by
  have := ha.at_ (Nat.lt_succ_self k) hx hy; omega

/-- a valid Graph and a set of its nodes -/
def SetOk (s : Int) (l : List Ed) (xs : List Int) : Prop := P2.Good s l ∧ (∀ x ∈ xs, 0 ≤ x ∧ x < s) ∧ Asc xs
def RisesIn (xs : List Int) (lo hi : Int) : Prop := (∀ x ∈ xs, lo ≤ x ∧ x ≤ hi) ∧ Asc xs
theorem asc_len {xs : List Int} : ∀ {n : Nat}, Asc xs → (∀ x ∈ xs, 0 ≤ x ∧ x < (n : Int)) → xs.length ≤ n := fun {n} h hx => by
  have hnd : (xs.map Int.toNat).Nodup := by
    rw [List.Nodup, List.pairwise_map]
    refine h.imp_of_mem ?_
    intro a b ha hb hab
    have := hx a ha; have := hx b hb; omega
  have hsub : xs.map Int.toNat ⊆ List.range n := by
    intro a ha
    obtain ⟨j, hj, rfl⟩ := List.mem_map.1 ha
    have := hx j hj
    exact List.mem_range.2 (by omega)
  have := hnd.length_le_of_subset hsub
  simpa using this

set_option maxHeartbeats 1000000 in
theorem hasSet_any (s : Int) (v u : Value) (l : List Ed) (xs : List Int) (w : World) (h : Edges w v l) (hl : l.length ≤ 1048576) (hu : Ints w u xs) (hxl : xs.length ≤ 1048576) :
    Calls Tryd.prog 44 #[.agg #[.int .i64 s, v], u] w fun e w' => e = .returned (.bool (okG (SetOk s l xs))) ∧ Below w.heap.size w w' := by
  have e_w := Below.refl w.heap.size w
  have H := Lib.hid h
  have g0 := Blk.new w 29 #[.int .i64 s, v]
  obtain ⟨A, c, rfl, -⟩ := h.form
  obtain ⟨A2, c2, rfl, hc⟩ := hu.form
  have HU := Lib.hid hu
  have HC := Lib.hid hc
  clear h hu hc
  go_enter Tryd.func44, Tryd.ntmps44
  go_wp2_with fail
  go_loopg [5] xs.length (fun g i wr => ∃ k : Nat, k + g = xs.length ∧ i = .int .i64 ((k : Int) + 1) ∧ Hid (AscTo xs (k + 1)) ∧ Blk wr w.heap.size 29 #[.int .i64 s, .slice A l.length c] ∧ Below w.heap.size w wr)
  case atStart => exact ⟨0, by omega, rfl, AscTo.start _ _ (by omega), g0, (by have hz_ := (e_w).size; have hb_ := e_w; go_grown)⟩
  case round =>
    obtain ⟨k, hkg, rfl, hasc, hgb, hB⟩ := hrel
    obtain ⟨p0, p1, -, -⟩ := hgb.two
    by_cases hlt : k + 1 < xs.length
    · obtain ⟨x, hx⟩ : ∃ x, xs[k]? = some x := ⟨_, List.getElem?_eq_getElem (by omega)⟩
      obtain ⟨y, hy⟩ : ∃ y, xs[k + 1]? = some y := ⟨_, List.getElem?_eq_getElem hlt⟩
      obtain ⟨g, o, rfl, c0⟩ := HC.out k x hx
      obtain ⟨g', o', e', c1⟩ := HC.out (k + 1) y hy
      obtain ⟨rfl, rfl⟩ : g = g' ∧ o = o' := by simpa using e'
      have hlt' : (k : Int) + 1 < (xs.length : Int) := by omega
      have q0 : wr.cell? ⟨g, o + k, none⟩ = some (.int .i64 x) := (hB.cell (p := ⟨g, o + k, none⟩) (World.block_lt_of_cell? w (a := ⟨g, o + k, none⟩) c0)).trans c0
      have q1 : wr.cell? ⟨g, o + (k + 1), none⟩ = some (.int .i64 y) := (hB.cell (p := ⟨g, o + (k + 1), none⟩) (World.block_lt_of_cell? w (a := ⟨g, o + (k + 1), none⟩) c1)).trans c1
      have KK := Lib.hid (fun nq => (⟨hgb, below_drewN hB nq⟩ : Blk (wr.drewN nq) _ _ _ ∧ Below _ _ (wr.drewN nq)))
      have hj1 : IntKind.i64.wrap ((k : Int) + 1 - 1) = (k : Int) := by rw [show (k : Int) + 1 - 1 = (k : Int) from by omega]; exact IntWalk.i64_in _ (by omega)
      have hj1' : IntKind.i64.wrap (k : Int) = (k : Int) := IntWalk.i64_in _ (by omega)
      have hj2 : (0 : Int) ≤ (k : Int) := by omega
      have hj3 : (k : Int) < (xs.length : Int) := by omega
      have hj4 : (0 : Int) ≤ (k : Int) + 1 := by omega
      have hj5 : ((k : Int) + 1).toNat = k + 1 := by omega
      clear c0 c1 e'
      by_cases hxy : x < y
      · have HA := Lib.hid (hasc.out.succ (fun x' y' hx' hy' => by rw [hx] at hx'; rw [hy] at hy'; cases hx'; cases hy'; exact hxy))
        have d1 : decide (y ≤ x) = false := by simp; omega
        clear hx hy
        cases gk with
        | zero => omega
        | succ g2 =>
          go_wp2_with fail
          go_quiet (fail)
          go_wp2_with fail
          go_roundg g2
          case measure => omega
          case rel => exact ⟨k + 1, by omega, by go_num, HA, KK.out _⟩
      · have HN : Hid (¬ SetOk s l xs) := fun hh => not_asc hx hy (by omega) hh.2.2
        have d1 : decide (y ≤ x) = true := by simp; omega
        clear hx hy
        go_wp2_with fail
        go_quiet (fail)
        go_wp2_with fail
        go_ret
        exact ⟨ret_bool (okG_no HN.out).symm, (KK.out _).2⟩
    · have HA : Hid (Asc xs) := by
        apply AscTo.asc
        intro j x y hj hx hy
        exact hasc.out j x y (by omega) hx hy
      have HS := Lib.hid (hasNodes_any s (.slice A l.length c) (.slice A2 xs.length c2) l xs wr (H.out.below hB) hl (HU.out.below hB) hxl)
      have HE : Hid (nodesB s l xs = okG (SetOk s l xs)) := by
        by_cases hn : P2.Good s l ∧ ∀ x ∈ xs, 0 ≤ x ∧ x < s
        · show _ = _
          rw [nodesB_yes hn.1 hn.2, okG_yes ⟨hn.1, hn.2, HA.out⟩]
        · show _ = _
          rw [nodesB_no hn, okG_no (fun h => hn ⟨h.1, h.2.1⟩)]
      have hge : ¬ ((k : Int) + 1 < (xs.length : Int)) := by omega
      go_wp2_with fail
      refine HS.out.mono ?_
      rintro e w1 ⟨rfl, b1⟩
      go_wp2_with fail
      go_ret
      exact ⟨ret_bool HE.out, btrans hB b1⟩

def RisTo (xs : List Int) (lo hi : Int) (k : Nat) : Prop := (∀ j x, j < k → xs[j]? = some x → lo ≤ x ∧ x ≤ hi) ∧ AscTo xs k
theorem RisTo.all {xs : List Int} {lo hi : Int} (h : RisTo xs lo hi xs.length) : RisesIn xs lo hi :=
  ⟨fun x hx => by obtain ⟨j, hj⟩ := List.getElem?_of_mem hx; exact h.1 j x (List.getElem?_eq_some_iff.1 hj).1 hj, h.2.asc⟩
set_option maxHeartbeats 1000000 in
set_option maxRecDepth 100000 in
theorem l1Rising_any (u : Value) (xs : List Int) (lo hi : Int) (w : World) (hu : Ints w u xs) (hxl : xs.length ≤ 1048576) :
    Calls Tryd.prog 88 #[u, .int .i64 lo, .int .i64 hi] w fun e w' => e = .returned (.bool (okG (RisesIn xs lo hi))) ∧ Below w.heap.size w w' := by
  obtain ⟨A2, c2, rfl, hc⟩ := hu.form
  have HC := Lib.hid hc
  clear hu hc
  go_enter Tryd.func88, Tryd.ntmps88
  go_wp2_with fail
  go_loopg [7] xs.length (fun g i wr => ∃ k : Nat, k + g = xs.length ∧ i = .int .i64 (k : Int) ∧ Hid (RisTo xs lo hi k) ∧ Below w.heap.size w wr)
  case atStart => exact ⟨0, by omega, rfl, ⟨fun j x hj => by omega, AscTo.start _ _ (by omega)⟩, Below.refl _ _⟩
  case round =>
    obtain ⟨k, hkg, rfl, hris, hB⟩ := hrel
    cases gk with
    | zero =>
      obtain rfl : k = xs.length := by omega
      have HY := Lib.hid (okG_yes hris.out.all)
      go_wp2_with fail
      go_ret
      exact ⟨ret_bool HY.out.symm, hB⟩
    | succ g2 =>
      have hlt : k < xs.length := by omega
      have hlt' : (k : Int) < (xs.length : Int) := by omega
      obtain ⟨x, hx⟩ : ∃ x, xs[k]? = some x := ⟨_, List.getElem?_eq_getElem hlt⟩
      obtain ⟨g, o, rfl, c0⟩ := HC.out k x hx
      have q0 : wr.cell? ⟨g, o + k, none⟩ = some (.int .i64 x) := (hB.cell (p := ⟨g, o + k, none⟩) (World.block_lt_of_cell? w (a := ⟨g, o + k, none⟩) c0)).trans c0
      clear c0
      by_cases hin : lo ≤ x ∧ x ≤ hi
      · have ia : inB x lo hi = true := by simpa [inB] using hin
        by_cases hk0 : k = 0
        · subst hk0
          rw [Nat.add_zero] at q0
          have HR : Hid (RisTo xs lo hi (0 + 1)) := ⟨fun j y hj hy => by
            obtain rfl : j = 0 := by omega
            rw [hx] at hy; cases hy; exact hin, AscTo.start _ _ (by omega)⟩
          clear hx
          go_wp2_with fail
          go_quiet ((go_at_call 86; exact quiet_left (l1In_any _ _ _ _)))
          go_wp2_with fail
          go_roundg g2
          case measure => omega
          case rel => exact ⟨0 + 1, by omega, by go_num, HR, below_drewN hB _⟩
        · obtain ⟨j, rfl⟩ : ∃ j, k = j + 1 := ⟨k - 1, by omega⟩
          obtain ⟨y, hy⟩ : ∃ y, xs[j]? = some y := ⟨_, List.getElem?_eq_getElem (by omega)⟩
          obtain ⟨g', o', e', c1⟩ := HC.out j y hy
          obtain ⟨rfl, rfl⟩ : g = g' ∧ o = o' := by simpa using e'
          have hj1 : IntKind.i64.wrap ((j : Int) + 1 - 1) = (j : Int) := by rw [show (j : Int) + 1 - 1 = (j : Int) from by omega]; exact IntWalk.i64_in _ (by omega)
          have hj1' : IntKind.i64.wrap (j : Int) = (j : Int) := IntWalk.i64_in _ (by omega)
          have hj2 : (0 : Int) ≤ (j : Int) := by omega
          have hj3 : (j : Int) < (xs.length : Int) := by omega
          have q1 : wr.cell? ⟨g, o + j, none⟩ = some (.int .i64 y) := (hB.cell (p := ⟨g, o + j, none⟩) (World.block_lt_of_cell? w (a := ⟨g, o + j, none⟩) c1)).trans c1
          clear e' c1
          by_cases hyx : y < x
          · have HR : Hid (RisTo xs lo hi (j + 1 + 1)) := ⟨fun i z hi' hz => by
              by_cases e : i = j + 1
              · subst e; rw [hx] at hz; cases hz; exact hin
              · exact hris.out.1 i z (by omega) hz, hris.out.2.succ (fun a b ha hb => by rw [hy] at ha; rw [hx] at hb; cases ha; cases hb; exact hyx)⟩
            have d1 : decide (x ≤ y) = false := by simp; omega
            clear hx hy
            go_wp2_with fail
            go_quiet ((go_at_call 86; exact quiet_left (l1In_any _ _ _ _)))
            go_wp2_with fail
            go_roundg g2
            case measure => omega
            case rel => exact ⟨j + 1 + 1, by omega, by go_num, HR, below_drewN hB _⟩
          · have HN : Hid (¬ RisesIn xs lo hi) := fun hh => not_asc hy hx (by omega) hh.2
            have d1 : decide (x ≤ y) = true := by simp; omega
            clear hx hy
            go_wp2_with fail
            go_quiet ((go_at_call 86; exact quiet_left (l1In_any _ _ _ _)))
            go_wp2_with fail
            go_ret
            exact ⟨ret_bool (okG_no HN.out).symm, below_drewN hB _⟩
      · have ia : inB x lo hi = false := by simpa [inB] using hin
        have HN : Hid (¬ RisesIn xs lo hi) := fun hh => hin (hh.1 x (List.mem_of_getElem? hx))
        clear hx
        go_wp2_with fail
        go_quiet ((go_at_call 86; exact quiet_left (l1In_any _ _ _ _)))
        go_wp2_with fail
        go_ret
        exact ⟨ret_bool (okG_no HN.out).symm, below_drewN hB _⟩
theorem l2Set_any (s : Int) (v u : Value) (l : List Ed) (xs : List Int) (w : World) (hu : Ints w u xs) (hxl : xs.length ≤ 1048576) (h0 : 0 ≤ s) (h8 : s ≤ 8) :
    Calls Tryd.prog 36 #[.agg #[.int .i64 s, v], u] w fun e w' => e = .returned (.bool (okG (RisesIn xs 0 (s - 1)))) ∧ Below w.heap.size w w' := by
  have e_w := Below.refl w.heap.size w
  have b0 : Below w.heap.size w (w.alloc (.cells #[.int .i64 s, v] 29)) := (by have hz_ := (e_w).size; have hb_ := e_w; go_grown)
  obtain ⟨A2, c2, rfl, -⟩ := hu.form
  have HR := Lib.hid (l1Rising_any (.slice A2 xs.length c2) xs 0 (s - 1) _ (hu.below b0) hxl)
  clear hu
  go_enter Tryd.func36, Tryd.ntmps36
  go_wp2_with fail
  refine HR.out.mono ?_
  rintro e w1 ⟨rfl, b1⟩
  go_wp2_with fail
  go_ret
  exact ⟨rfl, btrans b0 b1⟩
theorem setOk_iff {s : Int} {l : List Ed} {xs : List Int} (h : P2.Good s l) : RisesIn xs 0 (s - 1) ↔ SetOk s l xs :=
  ⟨fun ⟨h1, h2⟩ => ⟨h, fun x hx => by have := h1 x hx; omega, h2⟩, fun ⟨_, h1, h2⟩ => ⟨fun x hx => by have := h1 x hx; omega, h2⟩⟩

def bitB (c k : Nat) : Bool := c.testBit k
theorem i64_and1 (n : Int) : bits .and .i64 n 1 = n % 2 := by
  have h1 : (BitVec.ofInt 64 1).toNat = 2 ^ 1 - 1 := by decide
  have key : (BitVec.ofInt 64 n &&& BitVec.ofInt 64 1).toNat = (n % ((2 ^ 64 : Nat) : Int)).toNat % 2 ^ 1 := by
    rw [BitVec.toNat_and, BitVec.toNat_ofInt, h1, Nat.and_two_pow_sub_one_eq_mod]
  show IntKind.i64.wrap ((BitVec.ofInt 64 n &&& BitVec.ofInt 64 1).toNat : Nat) = n % 2
  rw [key, IntKind.wrap_i64]
  omega
theorem bit_walk (c k : Nat) : (bits BinOp.and IntKind.i64 ((c : Int) / 2 ^ k) 1 == 1) = bitB c k := by
  rw [i64_and1]
  unfold bitB
  rw [Nat.testBit_eq_decide_div_mod_eq, Bool.eq_iff_iff, beq_iff_eq, decide_eq_true_iff]
  have : ((c : Int) / 2 ^ k) = ((c / 2 ^ k : Nat) : Int) := by simp
  rw [this]
  omega
set_option maxHeartbeats 1000000 in
set_option maxRecDepth 100000 in
theorem l2Bits_any (n c : Nat) (w : World) (hn : n ≤ 8) (hc : c ≤ 100000) :
    Calls Tryd.prog 67 #[.int .i64 (n : Int), .int .i64 (c : Int)] w (RowI w (nw (bitB c) n)) := by
  obtain ⟨i0, hi, hz0, hz1, hz2⟩ := info_parts infoInt
  have O0 := Lib.hid (own_new0 w 3 1)
  have e_w := Below.refl w.heap.size w
  go_enter Tryd.func67, Tryd.ntmps67
  go_wp2_with fail
  go_loopg [5, 6] n (fun g s i wr => ∃ k : Nat, k + g = n ∧ i = .int .i64 (k : Int) ∧ wr.ownsRow w.heap.size 3 1 s (nw (bitB c) k).length (cellsI (nw (bitB c) k)) ∧ Below w.heap.size w wr)
  case atStart => exact ⟨0, by omega, rfl, O0.out, (by have hz_ := (e_w).size; have hb_ := e_w; go_grown)⟩
  case round =>
    obtain ⟨k, hkg, rfl, hrow, hB⟩ := hrel
    have hlen := nw_len (bitB c) k
    have hsz := hB.size
    cases gk with
    | zero =>
      obtain rfl : k = n := by omega
      obtain ⟨A2, c2, rfl⟩ := own_form hrow
      go_wp2_with fail
      go_ret
      exact ⟨A2, c2, rfl, hrow, hB⟩
    | succ g2 =>
      have hlt : k < n := by omega
      have hlt' : (k : Int) < (n : Int) := by omega
      have hb := bit_walk c k
      cases hp : bitB c k with
      | true =>
        have HN := Lib.hid (nw_yes hp)
        rw [hp] at hb
        clear hp
        generalize nw (bitB c) k = m at *
        go_wp2_with (at_builtin; refine wpList_append_own _ rfl _ _ 25 rfl (w.heap.size) 3 i0 (.int .i64 0) 1 8 Tryd.underlying25 hi hz0 hz1 hz2 rfl (by decide) _ _ _ rfl (hrow.alloc _) ⟨wr.heap.size, 0, none⟩ 1 1 [.int .i64 ((k : Int))] rfl rfl (cell_one_new _ _ _) (fun x hx => by simp at hx; subst hx; rfl) (by unfold maxLen; omega) (by omega) (by simp; omega) ?_; intro v2 w2 hown2 hgrow2 _)
        obtain ⟨hown3, hB2⟩ := push1 hrow hown2 hgrow2 hsz
        clear hgrow2 hrow hown2 hb
        go_roundg g2
        case measure => omega
        case rel => exact ⟨k + 1, by omega, by go_num, by rw [HN.out]; exact hown3, hB.trans hB2⟩
      | false =>
        have HN := Lib.hid (nw_no hp)
        rw [hp] at hb
        clear hp
        go_wp2_with fail
        clear hb
        go_roundg g2
        case measure => omega
        case rel => exact ⟨k + 1, by omega, by go_num, by rw [HN.out]; exact hrow, hB⟩


theorem nw_all (n : Nat) (p : Nat → Bool) (h : ∀ k, k < n → p k = true) : nw p n = (List.range n).map fun x : Nat => (x : Int) := by
  unfold nw
  rw [List.filter_eq_self.2 (fun k hk => h k (List.mem_range.1 hk))]
def allN (n : Nat) : List Int := (List.range n).map fun x : Nat => (x : Int)
theorem allN_len (n : Nat) : (allN n).length = n := by simp [allN]
theorem mem_allN {n : Nat} {x : Int} : x ∈ allN n ↔ 0 ≤ x ∧ x < n := by
  simp only [allN, List.mem_map, List.mem_range]
  constructor
  · rintro ⟨k, hk, rfl⟩; omega
  · intro h; exact ⟨x.toNat, by omega, by omega⟩
theorem bits_all (n : Nat) : nw (bitB (2 ^ n - 1)) n = allN n := nw_all n _ fun k hk => by
  unfold bitB
  rw [Nat.testBit_two_pow_sub_one]
  simpa using hk
set_option maxHeartbeats 1000000 in
set_option maxRecDepth 100000 in
theorem l2All_any (n : Nat) (v : Value) (w : World) (hn : n ≤ 8) :
    Calls Tryd.prog 66 #[.agg #[.int .i64 (n : Int), v]] w (RowI w (allN n)) := by
  have hp : 2 ^ n ≤ 256 := by
    have := Nat.pow_le_pow_right (show 0 < 2 by decide) hn
    simpa using this
  have h1 : 1 ≤ 2 ^ n := Nat.one_le_two_pow
  have HB := Lib.hid (fun (W : World) => l2Bits_any n (2 ^ n - 1) W hn (by omega))
  rw [bits_all n] at HB
  have HW : Hid (IntKind.i64.wrap (IntKind.i64.wrap (2 ^ n) - 1) = ((2 ^ n - 1 : Nat) : Int)) := by
    have h2 : ((2 : Int) ^ n) = ((2 ^ n : Nat) : Int) := by simp
    show _ = _
    rw [h2, show IntKind.i64.wrap ((2 ^ n : Nat) : Int) = ((2 ^ n : Nat) : Int) from IntWalk.i64_in _ (by omega), show ((2 ^ n : Nat) : Int) - 1 = ((2 ^ n - 1 : Nat) : Int) from by omega]
    exact IntWalk.i64_in _ (by omega)
  have e_w := Below.refl w.heap.size w
  have g0 := (Blk.new w 29 #[.int .i64 (n : Int), v]).two
  go_enter Tryd.func66, Tryd.ntmps66
  obtain ⟨p0, p1, -, -⟩ := g0
  go_wp2_with fail
  go_region_held3 (fun w' => w'.cell? ⟨w.heap.size, 0, none⟩ = some (.int .i64 (n : Int))) (go_keep)
    (first | (go_at_call 67; rw [HW.out]; refine (keepb (HB.out _) (fun _ _ h => h.below) (p := ⟨w.heap.size, 0, none⟩) (a := .int .i64 (n : Int)) ?_).mono ?_; (simp [*]); rintro e w1 ⟨⟨A1, c1, rfl, o1, b1⟩, k0⟩))
  have e_w1 : Below w.heap.size w w1 := btrans (by have hz_ := (e_w).size; have hb_ := e_w; go_grown) b1
  go_wp2_with fail
  go_ret
  exact ⟨A1, c1, rfl, own_base o1 (by simp), e_w1⟩
end Go.Proofs.YtdhbaegkogklgaaDoor.sets

/- Sets of nodes as binary digits; closed neighborhoods, covers and corners: plain mathematics. -/
namespace Go.Proofs.YtdhbaegkogklgaaDoor.covs
open Go.RowKit P2 fns sets

theorem nw_congr {p q : Nat → Bool} {n : Nat} (h : ∀ k, k < n → p k = q k) : nw p n = nw q n := by
  unfold nw
  rw [List.filter_congr (fun k hk => h k (List.mem_range.1 hk))]
theorem nw_more {p : Nat → Bool} {n m : Nat} (hnm : n ≤ m) (h : ∀ k, n ≤ k → k < m → p k = false) : nw p m = nw p n := by
  induction m with
  | zero => obtain rfl : n = 0 := by omega
            rfl
  | succ m ih =>
    by_cases e : n = m + 1
    · rw [e]
    · rw [nw_no (h m (by omega) (by omega))]
      exact ih (by omega) (fun k a b => h k a (by omega))
theorem nw_asc (p : Nat → Bool) (n : Nat) : Asc (nw p n) := by
  unfold nw Asc
  rw [List.pairwise_map]
  refine List.Pairwise.imp ?_ (List.Pairwise.filter _ List.pairwise_lt_range)
  intro a b h
  omega
theorem asc_ext : ∀ {l1 l2 : List Int}, Asc l1 → Asc l2 → (∀ e, e ∈ l1 ↔ e ∈ l2) → l1 = l2
  | [], [], _, _, _ => rfl
  | [], b :: l2, _, _, h => absurd ((h b).2 (by simp)) (by simp)
  | a :: l1, [], _, _, h => absurd ((h a).1 (by simp)) (by simp)
  | a :: l1, b :: l2, h1, h2, h => by
    obtain ⟨p1, q1⟩ := List.pairwise_cons.1 h1
    obtain ⟨p2, q2⟩ := List.pairwise_cons.1 h2
    have hab : a = b := by
      rcases List.mem_cons.1 ((h a).1 (by simp)) with e | m1
      · exact e
      · rcases List.mem_cons.1 ((h b).2 (by simp)) with e | m2
        · exact e.symm
        · have := p1 b m2; have := p2 a m1; omega
    subst hab
    have ht : l1 = l2 := asc_ext q1 q2 fun e => by
      constructor
      · intro m
        rcases List.mem_cons.1 ((h e).1 (by simp [m])) with e1 | m'
        · subst e1; have := p1 e m; omega
        · exact m'
      · intro m
        rcases List.mem_cons.1 ((h e).2 (by simp [m])) with e1 | m'
        · subst e1; have := p2 e m; omega
        · exact m'
    rw [ht]
theorem asc_nw {xs : List Int} {p : Nat → Bool} {n : Nat} (h : Asc xs) (hx : ∀ x ∈ xs, 0 ≤ x ∧ x < (n : Int)) (hp : ∀ k, k < n → (p k = true ↔ (k : Int) ∈ xs)) : xs = nw p n :=
  asc_ext h (nw_asc p n) fun e => by
    rw [mem_nw]
    constructor
    · intro he
      have := hx e he
      refine ⟨e.toNat, by omega, (hp _ (by omega)).2 (by rw [show ((e.toNat : Nat) : Int) = e from by omega]; exact he), by omega⟩
    · rintro ⟨j, hj, hpj, rfl⟩
      exact (hp j hj).1 hpj

/-- the number whose digits are 1 where p holds -/
def numOf (p : Nat → Bool) : Nat → Nat
  | 0 => 0
  | n + 1 => if p n = true then numOf p n ||| 2 ^ n else numOf p n
theorem numOf_yes {p : Nat → Bool} {n : Nat} (h : p n = true) : numOf p (n + 1) = numOf p n ||| 2 ^ n := by rw [numOf, if_pos h]
theorem numOf_no {p : Nat → Bool} {n : Nat} (h : p n = false) : numOf p (n + 1) = numOf p n := by rw [numOf, if_neg (by simp [h])]
theorem numOf_bit (p : Nat → Bool) (n k : Nat) : (numOf p n).testBit k = (decide (k < n) && p k) := by
  induction n with
  | zero => simp [numOf]
  | succ n ih =>
    have hd : k ≠ n → decide (k < n) = decide (k < n + 1) := fun h => by rw [decide_eq_decide]; omega
    cases hp : p n with
    | true =>
      rw [numOf_yes hp, Nat.testBit_or, ih, Nat.testBit_two_pow]
      by_cases e : n = k
      · subst e; simp [hp]
      · rw [hd (fun h => e h.symm)]; simp [e]
    | false =>
      rw [numOf_no hp, ih]
      by_cases e : k = n
      · subst e; simp [hp]
      · rw [hd e]
theorem numOf_lt (p : Nat → Bool) {n : Nat} (hn : n ≤ 8) : numOf p n < 256 :=
  Nat.lt_pow_two_of_testBit (n := 8) _ fun i hi => by rw [numOf_bit]; simp; omega
theorem numOf_zero {p : Nat → Bool} {n : Nat} : numOf p n = 0 ↔ ∀ k, k < n → p k = false := by
  constructor
  · intro h k hk
    have := numOf_bit p n k
    rw [h] at this
    simpa [hk] using this.symm
  · intro h
    apply Nat.eq_of_testBit_eq
    intro i
    rw [numOf_bit]
    by_cases hi : i < n
    · simp [h i hi]
    · simp [hi]
theorem nodes_num {p : Nat → Bool} {n : Nat} (hn : n ≤ 8) : nw (bitB (numOf p n)) 8 = nw p n := by
  rw [nw_more hn (fun k h1 _ => by unfold bitB; rw [numOf_bit]; simp; omega)]
  exact nw_congr fun k hk => by unfold bitB; rw [numOf_bit]; simp [hk]

/-- the set of all nodes in a list -/
def codeL (xs : List Int) : Nat := xs.foldl (fun a x => a ||| 2 ^ x.toNat) 0
theorem code_fold (k : Nat) : ∀ (xs : List Int) (a : Nat), (∀ x ∈ xs, 0 ≤ x) → (xs.foldl (fun a x => a ||| 2 ^ x.toNat) a).testBit k = (a.testBit k || decide ((k : Int) ∈ xs))
  | [], a, _ => by simp
  | x :: xs, a, h => by
    have hx := h x (by simp)
    rw [List.foldl_cons, code_fold k xs _ (fun y hy => h y (by simp [hy])), Nat.testBit_or, Nat.testBit_two_pow, Bool.or_assoc]
    congr 1
    rw [Bool.eq_iff_iff]
    simp only [Bool.or_eq_true, decide_eq_true_eq, List.mem_cons]
    constructor
    · rintro (h1 | h1)
      · exact .inl (by omega)
      · exact .inr h1
    · rintro (h1 | h1)
      · exact .inl (by omega)
      · exact .inr h1
theorem code_bit {xs : List Int} (h : ∀ x ∈ xs, 0 ≤ x) (k : Nat) : (codeL xs).testBit k = decide ((k : Int) ∈ xs) := by
  unfold codeL; rw [code_fold k xs 0 h]; simp
theorem code_succ {xs : List Int} {k : Nat} {x : Int} (h : xs[k]? = some x) : codeL (xs.take (k + 1)) = codeL (xs.take k) ||| 2 ^ x.toNat := by
  unfold codeL
  rw [List.take_add_one, h, List.foldl_append]
  rfl
theorem code_lt {xs : List Int} {m : Nat} (h : ∀ x ∈ xs, 0 ≤ x ∧ x < (m : Int)) : codeL xs < 2 ^ m :=
  Nat.lt_pow_two_of_testBit (n := m) _ fun i hi => by
    rw [code_bit (fun x hx => (h x hx).1)]
    simp only [decide_eq_false_iff_not]
    intro hm
    have := (h _ hm).2
    omega
theorem code_all (n : Nat) : codeL (allN n) = 2 ^ n - 1 := by
  apply Nat.eq_of_testBit_eq
  intro i
  rw [code_bit (fun x hx => (mem_allN.1 hx).1), Nat.testBit_two_pow_sub_one, decide_eq_decide, mem_allN]
  omega
theorem set_code {xs : List Int} {n : Nat} (h : Asc xs) (hx : ∀ x ∈ xs, 0 ≤ x ∧ x < (n : Int)) : xs = nw (bitB (codeL xs)) n :=
  asc_nw h hx fun k _ => by unfold bitB; rw [code_bit (fun x hm => (hx x hm).1)]; simp

/-- the closed neighborhood of a node by a list of edges -/
def joinB (a : Nat) (e : Ed) (x : Nat) : Nat := if e.1 = (x : Int) then a ||| 2 ^ e.2.toNat else if e.2 = (x : Int) then a ||| 2 ^ e.1.toNat else a
def cloB (l : List Ed) (x : Nat) : Nat := l.foldl (fun a e => joinB a e x) (2 ^ x)
theorem cloB_succ {l : List Ed} {k : Nat} {e : Ed} (h : l[k]? = some e) (x : Nat) : cloB (l.take (k + 1)) x = joinB (cloB (l.take k) x) e x := by
  unfold cloB
  rw [List.take_add_one, h, List.foldl_append]
  rfl
theorem joinB_bit {a : Nat} {e : Ed} {x z : Nat} (h0 : 0 ≤ e.1) (h1 : e.1 < e.2) :
    (joinB a e x).testBit z = (a.testBit z || decide (((x : Int), (z : Int)) = e ∨ ((z : Int), (x : Int)) = e)) := by
  obtain ⟨u, v⟩ := e
  simp only at h0 h1
  unfold joinB
  simp only [Prod.mk.injEq]
  split
  · rename_i hu
    rw [Nat.testBit_or, Nat.testBit_two_pow]
    congr 1
    rw [decide_eq_decide]
    omega
  · split
    · rename_i hu hv
      rw [Nat.testBit_or, Nat.testBit_two_pow]
      congr 1
      rw [decide_eq_decide]
      omega
    · rename_i hu hv
      rw [decide_eq_false (by omega), Bool.or_false]
theorem fold_bit (x z : Nat) : ∀ (l : List Ed) (a : Nat), (∀ e ∈ l, 0 ≤ e.1 ∧ e.1 < e.2) → (l.foldl (fun a e => joinB a e x) a).testBit z = (a.testBit z || adj l x z)
  | [], a, _ => by simp [adj]
  | e :: l, a, h => by
    have he := h e (by simp)
    rw [List.foldl_cons, fold_bit x z l _ (fun y hy => h y (by simp [hy])), joinB_bit he.1 he.2, Bool.or_assoc]
    congr 1
    unfold adj
    rw [Bool.eq_iff_iff]
    simp only [Bool.or_eq_true, decide_eq_true_eq, List.mem_cons]
    constructor
    · rintro ((h1 | h1) | (h1 | h1))
      · exact .inl (.inl h1)
      · exact .inr (.inl h1)
      · exact .inl (.inr h1)
      · exact .inr (.inr h1)
    · rintro ((h1 | h1) | (h1 | h1))
      · exact .inl (.inl h1)
      · exact .inr (.inl h1)
      · exact .inl (.inr h1)
      · exact .inr (.inr h1)
theorem cloB_bit {s : Int} {l : List Ed} (hg : P2.Good s l) (x z : Nat) : (cloB l x).testBit z = (x == z || adj l x z) := by
  unfold cloB
  rw [fold_bit x z l _ (fun e he => ⟨(hg.mem he).1, (hg.mem he).2.1⟩), Nat.testBit_two_pow]
  congr 1
theorem cloB_take_bit {s : Int} {l : List Ed} (hg : P2.Good s l) (k x z : Nat) : (cloB (l.take k) x).testBit z = (x == z || adj (l.take k) x z) := by
  unfold cloB
  rw [fold_bit x z _ _ (fun e he => ⟨(hg.mem (List.mem_of_mem_take he)).1, (hg.mem (List.mem_of_mem_take he)).2.1⟩), Nat.testBit_two_pow]
  congr 1
theorem cloB_lt {s : Int} {l : List Ed} (hg : P2.Good s l) (k x : Nat) (hx : x < 8) : cloB (l.take k) x < 256 :=
  Nat.lt_pow_two_of_testBit (n := 8) _ fun i hi => by
    rw [cloB_take_bit hg]
    simp only [Bool.or_eq_false_iff, beq_eq_false_iff_ne]
    refine ⟨by omega, ?_⟩
    unfold adj
    rw [decide_eq_false_iff_not]
    have h8 := hg.2.1
    rintro (h | h) <;> (have := hg.mem (List.mem_of_mem_take h); simp only at this; omega)
theorem cloB_lt' {s : Int} {l : List Ed} (hg : P2.Good s l) (x : Nat) (hx : x < 8) : cloB l x < 256 := by
  have := cloB_lt hg l.length x hx
  rwa [List.take_length] at this

/-- y covers x in a set -/
def coverB (l : List Ed) (B x y : Nat) : Bool := decide (y ≠ x) && (B.testBit y && decide ((cloB l x &&& B) &&& cloB l y = cloB l x &&& B))
/-- the covers of x in a set, of the nodes less than n -/
def coversN (l : List Ed) (n B x : Nat) : Nat := numOf (coverB l B x) n
def cornerB (l : List Ed) (n B x : Nat) : Bool := B.testBit x && coversN l n B x != 0
def cornersN (l : List Ed) (n B : Nat) : Nat := numOf (cornerB l n B) n
theorem sub_iff {a b : Nat} : a &&& b = a ↔ ∀ z, a.testBit z = true → b.testBit z = true := by
  constructor
  · intro h z hz
    rw [← h, Nat.testBit_and] at hz
    simpa using (Bool.and_eq_true_iff.1 hz).2
  · intro h
    apply Nat.eq_of_testBit_eq
    intro i
    rw [Nat.testBit_and]
    cases hi : a.testBit i with
    | true => simp [h i hi]
    | false => rfl
theorem coverB_iff {s : Int} {l : List Ed} (hg : P2.Good s l) {B x y : Nat} : coverB l B x y = true ↔ y ≠ x ∧ B.testBit y = true ∧ ∀ z : Nat, (x = z ∨ adj l x z = true) → B.testBit z = true → (y = z ∨ adj l y z = true) := by
  unfold coverB
  simp only [Bool.and_eq_true, decide_eq_true_eq, sub_iff, Nat.testBit_and, cloB_bit hg, Bool.or_eq_true, beq_iff_eq]
  constructor
  · rintro ⟨h1, h2, h3⟩
    exact ⟨h1, h2, fun z hz hb => h3 z ⟨hz, hb⟩⟩
  · rintro ⟨h1, h2, h3⟩
    exact ⟨h1, h2, fun z hz => h3 z hz.1 hz.2⟩

/-- a & ^b is 0 just where b has all of a -/
theorem bits_andNot0 (a b : Nat) (ha : a < 18446744073709551616) (hb : b < 18446744073709551616) : (bits .andNot .u64 (a : Int) (b : Int) == 0) = decide (a &&& b = a) := by
  have h1 : (BitVec.ofInt 64 (a : Int)).toNat = a := by
    rw [BitVec.ofInt_natCast, BitVec.toNat_ofNat]; exact Nat.mod_eq_of_lt (by omega)
  have h2 : (BitVec.ofInt 64 (b : Int)).toNat = b := by
    rw [BitVec.ofInt_natCast, BitVec.toNat_ofNat]; exact Nat.mod_eq_of_lt (by omega)
  have hlt : a &&& (18446744073709551616 - (b + 1)) < 2 ^ 64 := Nat.lt_of_le_of_lt Nat.and_le_left (by omega)
  have key : bits .andNot .u64 (a : Int) (b : Int) = ((a &&& (18446744073709551616 - (b + 1)) : Nat) : Int) := by
    show IntKind.u64.wrap ((BitVec.ofInt 64 (a : Int) &&& ~~~ BitVec.ofInt 64 (b : Int)).toNat : Int) = _
    rw [BitVec.toNat_and, BitVec.toNat_not, h1, h2, IntKind.wrap_u64]
    have : (2 ^ 64 - 1 - b : Nat) = 18446744073709551616 - (b + 1) := by omega
    rw [this]
    omega
  rw [key]
  rw [Bool.eq_iff_iff, beq_iff_eq, decide_eq_true_iff, sub_iff]
  have hz : ((a &&& (18446744073709551616 - (b + 1)) : Nat) : Int) = 0 ↔ a &&& (2 ^ 64 - (b + 1)) = 0 := by
    rw [show (2 ^ 64 : Nat) = 18446744073709551616 from rfl]; omega
  rw [hz]
  constructor
  · intro h z hz
    have hz64 : z < 64 := by
      rcases Nat.lt_or_ge z 64 with h | h
      · exact h
      · rw [Nat.testBit_lt_two_pow (Nat.lt_of_lt_of_le (show a < 2 ^ 64 by omega) (Nat.pow_le_pow_right (by decide) h))] at hz
        cases hz
    have h0 : (a &&& (2 ^ 64 - (b + 1))).testBit z = false := by rw [h]; simp
    rw [Nat.testBit_and, hz, Nat.testBit_two_pow_sub_succ (by omega)] at h0
    simpa [hz64] using h0
  · intro h
    apply Nat.eq_of_testBit_eq
    intro i
    rw [Nat.testBit_and, Nat.testBit_two_pow_sub_succ (by omega)]
    cases hi : a.testBit i with
    | true => simp [h i hi]
    | false => simp

-- ---- the model's words: sets are lists
/-- the ball of a node -/
def ballB (l : List Ed) (x : Nat) : Nat → Bool := fun z => (x == z) || adj l x z
def coverS (n : Nat) (l : List Ed) (xs : List Int) (x y : Int) : Bool :=
  ((nw (ballB l x.toNat) n).all fun b => !(decide (b ∈ xs) && (b != y && !adj l b y))) && (x != y && decide (y ∈ xs))
theorem coverS_eq {n : Nat} {l : List Ed} {xs : List Int} {x y : Nat} (hg : P2.Good n l) (hxs : ∀ z ∈ xs, 0 ≤ z ∧ z < (n : Int)) :
    coverS n l xs x y = coverB l (codeL xs) x y := by
  have hm : ∀ k : Nat, (codeL xs).testBit k = decide ((k : Int) ∈ xs) := code_bit (fun z hz => (hxs z hz).1)
  rw [Bool.eq_iff_iff, coverB_iff hg]
  unfold coverS
  simp only [Bool.and_eq_true, List.all_eq_true, hm, decide_eq_true_eq, bne_iff_ne, ne_eq, Bool.not_eq_true', Int.toNat_natCast, Int.ofNat_inj]
  constructor
  · rintro ⟨h1, h2, h3⟩
    refine ⟨fun e => h2 e.symm, h3, fun z hz hzs => ?_⟩
    have hzn := (hxs _ hzs).2
    have hzb : (z : Int) ∈ nw (ballB l x) n := mem_nw.2 ⟨z, by omega, by unfold ballB; simpa using hz, rfl⟩
    have := h1 _ hzb
    by_cases e : y = z
    · exact .inl e
    · refine .inr ?_
      rw [adj_comm]
      simp only [Bool.and_eq_false_iff, decide_eq_false_iff_not, bne_eq_false_iff_eq, Bool.not_eq_false'] at this
      rcases this with h | h | h
      · exact absurd hzs h
      · exact absurd (Int.ofNat_inj.1 h).symm e
      · exact h
  · rintro ⟨h1, h2, h3⟩
    refine ⟨fun b hb => ?_, fun e => h1 e.symm, h2⟩
    obtain ⟨z, hz, hzb, rfl⟩ := mem_nw.1 hb
    unfold ballB at hzb
    simp only [Bool.and_eq_false_iff, decide_eq_false_iff_not, bne_eq_false_iff_eq, Bool.not_eq_false']
    by_cases hzs : (z : Int) ∈ xs
    · rcases h3 z (by simpa using hzb) hzs with e | e
      · exact .inr (.inl (by rw [e]))
      · exact .inr (.inr (by rw [adj_comm]; exact e))
    · exact .inl hzs
/-- the least cover of a node in a set, or -1 -/
def leastS (n : Nat) (l : List Ed) (xs : List Int) (x : Int) : Int := (xs.find? (coverS n l xs x)).getD (-1)
theorem leastS_some {n : Nat} {l : List Ed} {xs : List Int} {x : Int} (hxs : ∀ z ∈ xs, 0 ≤ z) : decide (0 ≤ leastS n l xs x) = xs.any (coverS n l xs x) := by
  unfold leastS
  rw [Bool.eq_iff_iff, decide_eq_true_iff, List.any_eq_true]
  cases hf : xs.find? (coverS n l xs x) with
  | none =>
    have := List.find?_eq_none.1 hf
    constructor
    · intro h; simp at h
    · rintro ⟨y, hy, h⟩; exact absurd h (this y hy)
  | some y =>
    have h1 := List.mem_of_find?_eq_some hf
    have h2 := List.find?_some hf
    constructor
    · intro _; exact ⟨y, h1, h2⟩
    · intro _; exact hxs y h1
theorem any_covers {n : Nat} {l : List Ed} {xs : List Int} {x : Nat} (hg : P2.Good n l) (hxs : ∀ z ∈ xs, 0 ≤ z ∧ z < (n : Int)) :
    xs.any (coverS n l xs x) = (coversN l n (codeL xs) x != 0) := by
  rw [Bool.eq_iff_iff, List.any_eq_true, bne_iff_ne, ne_eq]
  unfold coversN
  rw [numOf_zero]
  constructor
  · rintro ⟨y, hy, h⟩ h0
    have hb := hxs y hy
    obtain ⟨k, rfl⟩ : ∃ k : Nat, y = (k : Int) := ⟨y.toNat, by omega⟩
    rw [coverS_eq hg hxs, h0 k (by omega)] at h
    cases h
  · intro h
    apply Classical.byContradiction
    intro hn
    refine h fun k hk => ?_
    cases hc : coverB l (codeL xs) x k with
    | false => rfl
    | true =>
      refine absurd ⟨(k : Int), ?_, ?_⟩ hn
      · have := ((coverB_iff hg).1 hc).2.1
        rw [code_bit (fun z hz => (hxs z hz).1)] at this
        simpa using this
      · rw [coverS_eq hg hxs]; exact hc
/-- the corners in a set -/
def cornersS (n : Nat) (l : List Ed) (xs : List Int) : List Int := xs.filter fun x => decide (0 ≤ leastS n l xs x)
theorem cornersS_eq {n : Nat} {l : List Ed} {xs : List Int} (hg : P2.Good n l) (ha : Asc xs) (hxs : ∀ z ∈ xs, 0 ≤ z ∧ z < (n : Int)) : cornersS n l xs = nw (cornerB l n (codeL xs)) n := by
  have h0 : ∀ z ∈ xs, 0 ≤ z := fun z hz => (hxs z hz).1
  refine asc_nw (List.Pairwise.filter _ ha) (fun x hx => hxs x (List.mem_filter.1 hx).1) fun k hk => ?_
  unfold cornersS cornerB
  rw [List.mem_filter, leastS_some h0, any_covers hg hxs, Bool.and_eq_true, code_bit h0, decide_eq_true_iff]
end Go.Proofs.YtdhbaegkogklgaaDoor.covs
