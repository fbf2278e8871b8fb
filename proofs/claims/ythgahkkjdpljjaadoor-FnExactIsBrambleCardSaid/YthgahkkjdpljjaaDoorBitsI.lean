/- The contracts of the program's sets as bits: bitsOf, has, nodes, closedBits, coversIn, cornersIn; and of slices.Contains. -/
import Derived.Handy
import Derived.Test.YthgahkkjdpljjaaDoorCov
import Derived.Test.YthgahkkjdpljjaaDoorNearV
import Derived.Test.YthgahkkjdpljjaaDoorGood
import Derived.StillTailTactics
namespace Go.Proofs.YthgahkkjdpljjaaDoor.bitsI
open Go.RowKit P2 words edges ints good adjs fns sets rets covs
set_option linter.unusedVariables false

theorem cell_keep {w w' : World} {b o : Nat} {v : Value} (h : w.cell? ⟨b, o, none⟩ = some v) (hb : Below w.heap.size w w') : w'.cell? ⟨b, o, none⟩ = some v :=
  (hb.cell (p := ⟨b, o, none⟩) (World.block_lt_of_cell? w (a := ⟨b, o, none⟩) h)).trans h
theorem wrap_pow {m : Nat} (hm : m ≤ 8) : IntKind.u64.wrap ((2 : Int) ^ m) = ((2 ^ m : Nat) : Int) := by
  have h : 2 ^ m ≤ 256 := by have := Nat.pow_le_pow_right (show 0 < 2 by decide) hm; simpa using this
  have h2 : ((2 : Int) ^ m) = ((2 ^ m : Nat) : Int) := by simp
  rw [h2]
  generalize 2 ^ m = p at *
  rw [IntKind.wrap_u64]; omega
theorem or_walk (a m : Nat) (ha : a < 256) (hm : m ≤ 8) : bits .or .u64 (a : Int) (IntKind.u64.wrap ((2 : Int) ^ m)) = ((a ||| 2 ^ m : Nat) : Int) := by
  have h : 2 ^ m ≤ 256 := by have := Nat.pow_le_pow_right (show 0 < 2 by decide) hm; simpa using this
  rw [wrap_pow hm, bits_or_u64_nat _ _ (by omega) (by omega)]
theorem has_walk (c k : Nat) (hc : c < 18446744073709551616) : (bits BinOp.and IntKind.u64 ((c : Int) / 2 ^ k) 1 == 1) = c.testBit k := by
  have h1 : ((c : Int) / 2 ^ k) = ((c / 2 ^ k : Nat) : Int) := by simp
  have hlt : c / 2 ^ k < 18446744073709551616 := Nat.lt_of_le_of_lt (Nat.div_le_self _ _) hc
  have h2 := bits_and_u64_nat (c / 2 ^ k) 1 hlt (by decide)
  rw [h1, show (1 : Int) = ((1 : Nat) : Int) from rfl, h2, show 1 = 2 ^ 1 - 1 from rfl, Nat.and_two_pow_sub_one_eq_mod, Nat.testBit_eq_decide_div_mod_eq, Bool.eq_iff_iff, beq_iff_eq, decide_eq_true_iff]
  omega

set_option maxHeartbeats 1000000 in
theorem has_any (c k : Nat) (w : World) (hc : c < 18446744073709551616) (hk : k ≤ 8) :
    Calls Tryd.prog 50 #[.int .u64 (c : Int), .int .i64 (k : Int)] w fun e w' => e = .returned (.bool (c.testBit k)) ∧ w = w' := by
  have HW := Lib.hid (has_walk c k hc)
  go_enter Tryd.func50, Tryd.ntmps50
  go_wp2_with fail
  go_ret
  exact ⟨ret_bool HW.out, rfl⟩

set_option maxHeartbeats 1000000 in
theorem bitsOf_any (u : Value) (xs : List Int) (w : World) (hu : Ints w u xs) (hxl : xs.length ≤ 1048576) (hx : ∀ x ∈ xs, 0 ≤ x ∧ x < 8) :
    Calls Tryd.prog 30 #[u] w fun e w' => e = .returned (.int .u64 (codeL xs : Int)) ∧ w = w' := by
  obtain ⟨A2, c2, rfl, hc⟩ := hu.form
  have HC := Lib.hid hc
  have HX := Lib.hid hx
  clear hu hc hx
  go_enter Tryd.func30, Tryd.ntmps30
  go_wp2_with fail
  go_loop [3, 8] (fun s i => ∃ k : Nat, k ≤ xs.length ∧ i = .int .i64 (k : Int) ∧ s = .int .u64 (codeL (xs.take k) : Int)) (fun _ i => xs.length - (intOf i).toNat)
  case atStart => exact ⟨0, Nat.zero_le _, rfl, rfl⟩
  case round =>
    obtain ⟨k, hk, rfl, rfl⟩ := hrel
    by_cases hlt : k < xs.length
    · obtain ⟨x, hx⟩ : ∃ x, xs[k]? = some x := ⟨_, List.getElem?_eq_getElem hlt⟩
      obtain ⟨g, o, rfl, c0⟩ := HC.out k x hx
      have hlt' : (k : Int) < (xs.length : Int) := by omega
      have hx0 := HX.out x (List.mem_of_getElem? hx)
      obtain ⟨m, rfl⟩ : ∃ m : Nat, x = (m : Int) := ⟨x.toNat, by omega⟩
      have hm : m ≤ 8 := by omega
      have HS := Lib.hid (code_succ hx)
      have HT := Lib.hid (or_walk (codeL (xs.take k)) m (code_lt (m := 8) fun y hy => by have := HX.out y (List.mem_of_mem_take hy); omega) hm)
      clear hx
      go_wp2_with fail
      go_round
      case rel => exact ⟨k + 1, by omega, by go_num, by rw [HS.out, HT.out]; rfl⟩
      case measure => simp [intOf]; omega
    · obtain rfl : k = xs.length := by omega
      have HT : Hid (codeL (xs.take xs.length) = codeL xs) := by show _ = _; rw [List.take_length]
      go_wp2_with fail
      go_ret
      exact ⟨ret_int (by first | rfl | rw [HT.out]), rfl⟩

/-- a row of words -/
def cellsU (l : List Nat) : List Value := l.map fun a : Nat => .int .u64 (a : Int)
theorem cellsU_at {l : List Nat} {k x : Nat} (h : l[k]? = some x) : (cellsU l)[k]? = some (.int .u64 (x : Int)) := by simp [cellsU, h]
theorem cellsU_len (l : List Nat) : (cellsU l).length = l.length := by simp [cellsU]
theorem cellsU_set (l : List Nat) (k x : Nat) : (cellsU l).set k (.int .u64 (x : Int)) = cellsU (l.set k x) := by simp [cellsU, List.map_set]
abbrev Nums (w : World) (v : Value) (l : List Nat) : Prop := Reads w 1 v l.length (cellsU l)
theorem Nums.form {w : World} {v : Value} {l : List Nat} (h : Nums w v l) : ∃ A c, v = .slice A l.length c ∧ ∀ (k x : Nat), l[k]? = some x → ∃ g o, A = some ⟨g, o, none⟩ ∧ w.cell? ⟨g, o + k, none⟩ = some (.int .u64 (x : Int)) := by
  obtain ⟨A, c, e, hx⟩ := h
  refine ⟨A, c, e, fun k x hk => ?_⟩
  obtain ⟨g, o, rfl, _, hj⟩ := hx (by have := (List.getElem?_eq_some_iff.1 hk).1; omega)
  exact ⟨g, o, rfl, hj _ _ (cellsU_at hk)⟩
/-- the closed neighborhoods of all nodes -/
def clos (l : List Ed) (n : Nat) : List Nat := (List.range n).map (cloB l)
theorem clos_len (l : List Ed) (n : Nat) : (clos l n).length = n := by simp [clos]
theorem clos_at {l : List Ed} {n k : Nat} (h : k < n) : (clos l n)[k]? = some (cloB l k) := by simp [clos, h]

end Go.Proofs.YthgahkkjdpljjaaDoor.bitsI
