/- Function values that test numbers, and what graphWhere and nodesWhere make of them. -/
import Derived.Test.YtfphpilabfpmjaaEdges
import Derived.Test.YtfphpilabfpmjaaInts
import Derived.Deep.DeepCutAuto
namespace Go.Proofs.Ytfphpilabfpmjaa.fns
open Go.RowKit P2 words edges ints

/-- a function value that answers for two numbers less than n, the first one less, in every world that goes on from w -/
structure Fn2 (w : World) (f : FuncId) (caps : Array Value) (n : Nat) (J : Nat → Nat → Bool) : Prop where
  enter : ∀ (args : Array Value) (W : World), (callFunc f args).run Try.prog W = .ok (.enter f args) W
  call : ∀ W, Below w.heap.size w W → ∀ x y : Nat, x < y → y < n → Calls Try.prog f (#[.int .i64 (x : Int), .int .i64 (y : Int)] ++ caps) W fun e W' => e = .returned (.bool (J x y)) ∧ Below W.heap.size W W'
structure Fn1 (w : World) (f : FuncId) (caps : Array Value) (n : Nat) (p : Nat → Bool) : Prop where
  enter : ∀ (args : Array Value) (W : World), (callFunc f args).run Try.prog W = .ok (.enter f args) W
  call : ∀ W, Below w.heap.size w W → ∀ x : Nat, x < n → Calls Try.prog f (#[.int .i64 (x : Int)] ++ caps) W fun e W' => e = .returned (.bool (p x)) ∧ Below W.heap.size W W'

/-- behind an append of one number, or of one edge -/
theorem push1 {w1 w2 : World} {B : Nat} {s v2 : Value} {m : List Int} {x : Int} {o : Obj} (hrow : w1.ownsRow B 3 1 s m.length (cellsI m)) (hown : w2.ownsRow B 3 1 v2 (m.length + 1) (cellsI m ++ [.int .i64 x]))
    (hg : (w1.alloc o).grownBy w2 s.ownBlock) (hB : B ≤ w1.heap.size) : w2.ownsRow B 3 1 v2 (m ++ [x]).length (cellsI (m ++ [x])) ∧ Below B w1 w2 :=
  ⟨by rw [cellsI_app, List.length_append]; exact hown, ((Below.refl B w1).alloc hB _).grown hg (by simp; omega) (fun j e => (hrow.lt j e).1)⟩
theorem pushE {w1 w2 : World} {B : Nat} {s v2 : Value} {m : List Ed} {a b : Int} {o : Obj} (hrow : w1.ownsRow B 80 2 s m.length (cellsE m)) (hown : w2.ownsRow B 80 2 v2 (m.length + 1) (cellsE m ++ [.int .i64 a, .int .i64 b]))
    (hg : (w1.alloc o).grownBy w2 s.ownBlock) (hB : B ≤ w1.heap.size) : w2.ownsRow B 80 2 v2 (m ++ [(a, b)]).length (cellsE (m ++ [(a, b)])) ∧ Below B w1 w2 :=
  ⟨by rw [cellsE_app, List.length_append]; exact hown, ((Below.refl B w1).alloc hB _).grown hg (by simp; omega) (fun j e => (hrow.lt j e).1)⟩
/-- the numbers less than k for which a test holds -/
def nw (p : Nat → Bool) (k : Nat) : List Int := ((List.range k).filter p).map fun x : Nat => (x : Int)
theorem nw_zero (p : Nat → Bool) : nw p 0 = [] := rfl
theorem nw_yes {p : Nat → Bool} {k : Nat} (h : p k = true) : nw p (k + 1) = nw p k ++ [(k : Int)] := by
  unfold nw
  rw [List.range_succ, List.filter_append, List.map_append]
  simp [h]
theorem nw_no {p : Nat → Bool} {k : Nat} (h : p k = false) : nw p (k + 1) = nw p k := by
  unfold nw
  rw [List.range_succ, List.filter_append, List.map_append]
  simp [h]
theorem nw_len (p : Nat → Bool) (k : Nat) : (nw p k).length ≤ k := by
  unfold nw
  rw [List.length_map]
  have := List.length_filter_le p (List.range k)
  simpa using this
theorem mem_nw {p : Nat → Bool} {k : Nat} {x : Int} : x ∈ nw p k ↔ ∃ j : Nat, j < k ∧ p j = true ∧ x = (j : Int) := by
  unfold nw
  simp only [List.mem_map, List.mem_filter, List.mem_range]
  constructor
  · rintro ⟨j, ⟨h1, h2⟩, rfl⟩; exact ⟨j, h1, h2, rfl⟩
  · rintro ⟨j, h1, h2, rfl⟩; exact ⟨j, ⟨h1, h2⟩, rfl⟩

set_option maxHeartbeats 1000000 in
theorem nodesWhere_any (n : Nat) (f : FuncId) (caps : Array Value) (p : Nat → Bool) (w : World) (hn : n ≤ 8) (h : Fn1 w f caps n p) :
    Calls Try.prog 93 #[.int .i64 (n : Int), .func (.func f) #[] caps] w fun e w' => ∃ A c, e = .returned (.slice A (nw p n).length c) ∧
      w'.ownsRow w.heap.size 3 1 (.slice A (nw p n).length c) (nw p n).length (cellsI (nw p n)) ∧ Below w.heap.size w w' := by
  obtain ⟨i0, hi, hz0, hz1, hz2⟩ := info_parts infoInt
  have hent := h.enter
  have HC := Lib.hid h.call
  clear h
  go_enter Try.func93, Try.ntmps93
  go_wp2_with fail
  go_loopw [5, 8] (fun s i wr => ∃ k : Nat, k ≤ n ∧ i = .int .i64 (k : Int) ∧ wr.ownsRow w.heap.size 3 1 s (nw p k).length (cellsI (nw p k)) ∧ Below w.heap.size w wr) (fun _ i _ => n - (intOf i).toNat)
  case atStart => exact ⟨0, Nat.zero_le _, rfl, World.ownsRow_nil _ _ _ _, Below.refl _ _⟩
  case round =>
    obtain ⟨k, hk, rfl, hrow, hB⟩ := hrel
    have hlen := nw_len p k
    by_cases hlt : k < n
    · have hlt' : (k : Int) < (n : Int) := by omega
      have HCk := HC.out
      have HP := Lib.hid (fun (W : World) (hb : Below w.heap.size w W) => HCk W hb k hlt)
      clear HCk
      have hsz := hB.size
      by_cases hp : p k = true
      · have HN := Lib.hid (nw_yes hp)
        rw [hp] at HP
        clear hp
        generalize nw p k = l at *
        go_wp2_with fail
        refine (HP.out _ hB).mono ?_
        rintro e w1 ⟨rfl, hb⟩
        have hrow1 := own_below hrow hb
        have hB1 := hB.trans (hb.mono hsz)
        have hsz1 := hB1.size
        clear hrow
        go_wp2_with (at_builtin; refine wpList_append_own _ rfl _ _ 25 rfl w.heap.size 3 i0 (.int .i64 0) 1 8 Try.underlying25 hi hz0 hz1 hz2 rfl (by decide) _ _ _ rfl (hrow1.alloc _) ⟨w1.heap.size, 0, none⟩ 1 1 [.int .i64 (k : Int)] rfl rfl (cell_one_new _ _ _) (fun x hx => by simp at hx; subst hx; rfl) (by unfold maxLen; omega) (by omega) (by simp; omega) ?_; intro v2 w2 hown2 hgrow2 _)
        have hB2 : Below w.heap.size w w2 := (hB1.alloc hsz1 _).grown hgrow2 (by simp; omega) (fun j e => (hrow1.lt j e).1)
        clear hgrow2 hrow1
        go_roundw
        case rel => exact ⟨k + 1, by omega, by go_num, by rw [HN.out, cellsI_app, List.length_append]; exact hown2, hB2⟩
        case measure => simp [intOf]; omega
      · have hp' : p k = false := by simpa using hp
        have HN := Lib.hid (nw_no hp')
        rw [hp'] at HP
        clear hp hp'
        go_wp2_with fail
        refine (HP.out _ hB).mono ?_
        rintro e w1 ⟨rfl, hb⟩
        have hrow1 := own_below hrow hb
        have hB1 := hB.trans (hb.mono hsz)
        clear hrow
        go_wp2_with fail
        go_roundw
        case rel => exact ⟨k + 1, by omega, by go_num, by rw [HN.out]; exact hrow1, hB1⟩
        case measure => simp [intOf]; omega
    · obtain rfl : k = n := by omega
      obtain ⟨A, c, rfl⟩ := own_form hrow
      go_wp2_with fail
      go_ret
      exact ⟨A, c, rfl, hrow, hB⟩
end Go.Proofs.Ytfphpilabfpmjaa.fns
