/- The contracts of the program's sets as bits: bitsOf, has, nodes, closedBits, coversIn, cornersIn; and of slices.Contains. -/
import Derived.Handy
import Derived.Test.YtfphpilabfpmjaaCov
import Derived.Test.YtfphpilabfpmjaaNearV
import Derived.Test.YtfphpilabfpmjaaGood
import Derived.StillTailTactics
namespace Go.Proofs.Ytfphpilabfpmjaa.bitsI
open Go.RowKit P2 words edges ints good adjs fns sets rets covs
set_option linter.unusedVariables false

theorem cell_keep {w w' : World} {b o : Nat} {v : Value} (h : w.cell? ⟨b, o, none⟩ = some v) (hb : Below w.heap.size w w') : w'.cell? ⟨b, o, none⟩ = some v :=
  (hb.cell (p := ⟨b, o, none⟩) (World.block_lt_of_cell? w (a := ⟨b, o, none⟩) h)).trans h
theorem wrap_pow {m : Nat} (hm : m ≤ 8) : IntKind.u64.wrap ((2 : Int) ^ m) = ((2 ^ m : Nat) : Int) := by
  have h : 2 ^ m ≤ 256 := by have := Nat.pow_le_pow_right (show 0 < 2 by decide) hm; simpa using this
  have h2 : ((2 : Int) ^ m) = ((2 ^ m : Nat) : Int) := by simp
  rw [h2]
  generalize 2 ^ m = p at *
  rw [IntKind.wrap_u64]; omega
theorem or_walk (a m : Nat) (ha : a < 256) (hm : m ≤ 8) : bits .or .u64 (a : Int) (IntKind.u64.wrap ((2 : Int) ^ m)) = ((a ||| 2 ^ m : Nat) : Int) := by
  have h : 2 ^ m ≤ 256 := by have := Nat.pow_le_pow_right (show 0 < 2 by decide) hm; simpa using this
  rw [wrap_pow hm, bits_or_u64_nat _ _ (by omega) (by omega)]
theorem has_walk (c k : Nat) (hc : c < 18446744073709551616) : (bits BinOp.and IntKind.u64 ((c : Int) / 2 ^ k) 1 == 1) = c.testBit k := by
  have h1 : ((c : Int) / 2 ^ k) = ((c / 2 ^ k : Nat) : Int) := by simp
  have hlt : c / 2 ^ k < 18446744073709551616 := Nat.lt_of_le_of_lt (Nat.div_le_self _ _) hc
  have h2 := bits_and_u64_nat (c / 2 ^ k) 1 hlt (by decide)
  rw [h1, show (1 : Int) = ((1 : Nat) : Int) from rfl, h2, show 1 = 2 ^ 1 - 1 from rfl, Nat.and_two_pow_sub_one_eq_mod, Nat.testBit_eq_decide_div_mod_eq, Bool.eq_iff_iff, beq_iff_eq, decide_eq_true_iff]
  omega

set_option maxHeartbeats 1000000 in
theorem has_any (c k : Nat) (w : World) (hc : c < 18446744073709551616) (hk : k ≤ 8) :
    Calls Try.prog 68 #[.int .u64 (c : Int), .int .i64 (k : Int)] w fun e w' => e = .returned (.bool (c.testBit k)) ∧ w = w' := by
  have HW := Lib.hid (has_walk c k hc)
  go_enter Try.func68, Try.ntmps68
  go_wp2_with fail
  go_ret
  exact ⟨ret_bool HW.out, rfl⟩

/-- nodesWhere over a method's value -/
theorem nodesWhere_first (n : Nat) (f : FuncId) (r : Value) (p : Nat → Bool) (w : World) (hn : n ≤ 8) (hent : ∀ (args : Array Value) (W : World), (callFunc f args).run Try.prog W = .ok (.enter f args) W)
    (hcall : ∀ W, ∀ x : Nat, x < n → Calls Try.prog f #[r, .int .i64 (x : Int)] W fun e W' => e = .returned (.bool (p x)) ∧ W = W') :
    Calls Try.prog 93 #[.int .i64 (n : Int), .func (.func f) #[r] #[]] w (RowI w (nw p n)) := by
  obtain ⟨i0, hi, hz0, hz1, hz2⟩ := info_parts infoInt
  have HC := Lib.hid hcall
  clear hcall
  go_enter Try.func93, Try.ntmps93
  go_wp2_with fail
  go_loopw [5, 8] (fun s i wr => ∃ k : Nat, k ≤ n ∧ i = .int .i64 (k : Int) ∧ wr.ownsRow w.heap.size 3 1 s (nw p k).length (cellsI (nw p k)) ∧ Below w.heap.size w wr) (fun _ i _ => n - (intOf i).toNat)
  case atStart => exact ⟨0, Nat.zero_le _, rfl, World.ownsRow_nil _ _ _ _, Below.refl _ _⟩
  case round =>
    obtain ⟨k, hk, rfl, hrow, hB⟩ := hrel
    have hlen := nw_len p k
    by_cases hlt : k < n
    · have hlt' : (k : Int) < (n : Int) := by omega
      have HCk := HC.out
      have HP := Lib.hid (fun (W : World) => HCk W k hlt)
      clear HCk
      have hsz := hB.size
      by_cases hp : p k = true
      · have HN := Lib.hid (nw_yes hp)
        rw [hp] at HP
        clear hp
        generalize nw p k = l at *
        go_wp2_with fail
        refine (HP.out _).mono ?_
        rintro e w1 ⟨rfl, rfl⟩
        go_wp2_with (at_builtin; refine wpList_append_own _ rfl _ _ 25 rfl (w.heap.size) 3 i0 (.int .i64 0) 1 8 Try.underlying25 hi hz0 hz1 hz2 rfl (by decide) _ _ _ rfl (hrow.alloc _) ⟨wr.heap.size, 0, none⟩ 1 1 [.int .i64 ((k : Int))] rfl rfl (cell_one_new _ _ _) (fun x hx => by simp at hx; subst hx; rfl) (by unfold maxLen; omega) (by omega) (by simp; omega) ?_; intro v2 w2 hown2 hgrow2 _)
        obtain ⟨hown3, hB2⟩ := push1 hrow hown2 hgrow2 hsz
        clear hgrow2 hrow hown2
        go_roundw
        case rel => exact ⟨k + 1, by omega, by go_num, by rw [HN.out]; exact hown3, hB.trans hB2⟩
        case measure => simp [intOf]; omega
      · have hp' : p k = false := by simpa using hp
        have HN := Lib.hid (nw_no hp')
        rw [hp'] at HP
        clear hp hp'
        go_wp2_with fail
        refine (HP.out _).mono ?_
        rintro e w1 ⟨rfl, rfl⟩
        go_wp2_with fail
        go_roundw
        case rel => exact ⟨k + 1, by omega, by go_num, by rw [HN.out]; exact hrow, hB⟩
        case measure => simp [intOf]; omega
    · obtain rfl : k = n := by omega
      obtain ⟨A, c, rfl⟩ := own_form hrow
      go_wp2_with fail
      go_ret
      exact ⟨A, c, rfl, hrow, hB⟩

theorem nodes_any (c : Nat) (w : World) (hc : c < 18446744073709551616) :
    Calls Try.prog 59 #[.int .u64 (c : Int)] w (RowI w (nw (bitB c) 8)) := by
  have hmf : ∀ (fn : Fn) (first cap : Array Value) (w : World), (Instr.makeFunc fn first cap).run Try.prog w = .ok (.func fn first cap) w := fun _ _ _ _ => rfl
  have HN := Lib.hid (nodesWhere_first 8 68 (.int .u64 (c : Int)) (bitB c) w (Nat.le_refl _) (fun _ _ => by kernel_rfl) (fun W x hx => has_any c x W hc (by omega)))
  go_enter Try.func59, Try.ntmps59
  go_wp2_with fail
  refine HN.out.mono ?_
  rintro e w1 ⟨A1, c1, rfl, o1, b1⟩
  go_wp2_with fail
  go_ret
  exact ⟨A1, c1, rfl, o1, b1⟩

set_option maxHeartbeats 1000000 in
theorem bitsOf_any (u : Value) (xs : List Int) (w : World) (hu : Ints w u xs) (hxl : xs.length ≤ 1048576) (hx : ∀ x ∈ xs, 0 ≤ x ∧ x < 8) :
    Calls Try.prog 57 #[u] w fun e w' => e = .returned (.int .u64 (codeL xs : Int)) ∧ w = w' := by
  obtain ⟨A2, c2, rfl, hc⟩ := hu.form
  have HC := Lib.hid hc
  have HX := Lib.hid hx
  clear hu hc hx
  go_enter Try.func57, Try.ntmps57
  go_wp2_with fail
  go_loop [3, 8] (fun s i => ∃ k : Nat, k ≤ xs.length ∧ i = .int .i64 (k : Int) ∧ s = .int .u64 (codeL (xs.take k) : Int)) (fun _ i => xs.length - (intOf i).toNat)
  case atStart => exact ⟨0, Nat.zero_le _, rfl, rfl⟩
  case round =>
    obtain ⟨k, hk, rfl, rfl⟩ := hrel
    by_cases hlt : k < xs.length
    · obtain ⟨x, hx⟩ : ∃ x, xs[k]? = some x := ⟨_, List.getElem?_eq_getElem hlt⟩
      obtain ⟨g, o, rfl, c0⟩ := HC.out k x hx
      have hlt' : (k : Int) < (xs.length : Int) := by omega
      have hx0 := HX.out x (List.mem_of_getElem? hx)
      obtain ⟨m, rfl⟩ : ∃ m : Nat, x = (m : Int) := ⟨x.toNat, by omega⟩
      have hm : m ≤ 8 := by omega
      have HS := Lib.hid (code_succ hx)
      have HT := Lib.hid (or_walk (codeL (xs.take k)) m (code_lt (m := 8) fun y hy => by have := HX.out y (List.mem_of_mem_take hy); omega) hm)
      clear hx
      go_wp2_with fail
      go_round
      case rel => exact ⟨k + 1, by omega, by go_num, by rw [HS.out, HT.out]; rfl⟩
      case measure => simp [intOf]; omega
    · obtain rfl : k = xs.length := by omega
      have HT : Hid (codeL (xs.take xs.length) = codeL xs) := by show _ = _; rw [List.take_length]
      go_wp2_with fail
      go_ret
      exact ⟨ret_int (by first | rfl | rw [HT.out]), rfl⟩

/-- a row of words -/
def cellsU (l : List Nat) : List Value := l.map fun a : Nat => .int .u64 (a : Int)
theorem cellsU_at {l : List Nat} {k x : Nat} (h : l[k]? = some x) : (cellsU l)[k]? = some (.int .u64 (x : Int)) := by simp [cellsU, h]
theorem cellsU_len (l : List Nat) : (cellsU l).length = l.length := by simp [cellsU]
theorem cellsU_set (l : List Nat) (k x : Nat) : (cellsU l).set k (.int .u64 (x : Int)) = cellsU (l.set k x) := by simp [cellsU, List.map_set]
abbrev Nums (w : World) (v : Value) (l : List Nat) : Prop := Reads w 1 v l.length (cellsU l)
theorem Nums.form {w : World} {v : Value} {l : List Nat} (h : Nums w v l) : ∃ A c, v = .slice A l.length c ∧ ∀ (k x : Nat), l[k]? = some x → ∃ g o, A = some ⟨g, o, none⟩ ∧ w.cell? ⟨g, o + k, none⟩ = some (.int .u64 (x : Int)) := by
  obtain ⟨A, c, e, hx⟩ := h
  refine ⟨A, c, e, fun k x hk => ?_⟩
  obtain ⟨g, o, rfl, _, hj⟩ := hx (by have := (List.getElem?_eq_some_iff.1 hk).1; omega)
  exact ⟨g, o, rfl, hj _ _ (cellsU_at hk)⟩
/-- the closed neighborhoods of all nodes -/
def clos (l : List Ed) (n : Nat) : List Nat := (List.range n).map (cloB l)
theorem clos_len (l : List Ed) (n : Nat) : (clos l n).length = n := by simp [clos]
theorem clos_at {l : List Ed} {n k : Nat} (h : k < n) : (clos l n)[k]? = some (cloB l k) := by simp [clos, h]

end Go.Proofs.Ytfphpilabfpmjaa.bitsI
