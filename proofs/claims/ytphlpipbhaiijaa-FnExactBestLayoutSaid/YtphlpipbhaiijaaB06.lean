/- A variable that holds the function value of the neighbors. -/
import Derived.Test.YtphlpipbhaiijaaB02
import Derived.Test.YtphlpipbhaiijaaB05
import Derived.Laws.EntriesVeiled
import Derived.Handy
import Derived.Test.YtphlpipbhaiijaaB01
import Derived.StillTailTactics
import Derived.Laws.CopyOwn
import Derived.Deep.RegionLaw
namespace Go.Proofs.Ytphlpipbhaiijaa.nearv
open Go.RowKit P2 words edges ints good near adjs fns

theorem in64_small {x : Int} (h : -100 ≤ x) (h2 : x ≤ 100) : In64 x := by unfold In64; omega
def NearV (w : World) (b : Nat) (l : List Ed) : Prop := ∃ c, w.cell? ⟨b, 0, none⟩ = some (.func (.func 159) #[] #[.pointer (some ⟨c, 0, none⟩)]) ∧ NearIs w c l
theorem NearV.below {w w' : World} {b : Nat} {l : List Ed} (h : NearV w b l) (hb : Below w.heap.size w w') : NearV w' b l := by
  obtain ⟨c, h1, h2⟩ := h
  exact ⟨c, (hb.cell (p := ⟨b, 0, none⟩) (World.block_lt_of_cell? w (a := ⟨b, 0, none⟩) h1)).trans h1, h2.below hb⟩
theorem cell_keep {w w' : World} {b o : Nat} {v : Value} (h : w.cell? ⟨b, o, none⟩ = some v) (hb : Below w.heap.size w w') : w'.cell? ⟨b, o, none⟩ = some v :=
  (hb.cell (p := ⟨b, o, none⟩) (World.block_lt_of_cell? w (a := ⟨b, o, none⟩) h)).trans h
/-- the variable, new -/
theorem NearV.new {w : World} {c : Nat} {l : List Ed} {t : TypeId} (h : NearIs w c l) :
    NearV (w.alloc (.cells #[.func (.func 159) #[] #[.pointer (some ⟨c, 0, none⟩)]] t)) w.heap.size l :=
  ⟨c, (Blk.new w t #[.func (.func 159) #[] #[.pointer (some ⟨c, 0, none⟩)]]).cell 0, h.below ((Below.refl _ _).alloc (Nat.le_refl _) _)⟩
/-- near, by the neighbors of a valid Graph -/
theorem near_adj (x y s : Int) (c : Nat) (l : List Ed) (w : World) (hg : P2.Good s l) (h : NearIs w c l) (hx : In64 x) (hy : In64 y) :
    Calls Try.prog 159 #[.int .i64 x, .int .i64 y, .pointer (some ⟨c, 0, none⟩)] w fun e w' => e = .returned (.bool (adj l x y)) ∧ w = w' := by
  rw [adj_min hg]; exact near_any x y c l w h hx hy
theorem good64 {s : Int} {l : List Ed} (hg : P2.Good s l) : ∀ e ∈ l, In64 e.1 ∧ In64 e.2 := fun e he => by
  have := hg.mem he
  have h8 := hg.2.1
  exact ⟨in64_small (by omega) (by omega), in64_small (by omega) (by omega)⟩
theorem gw_len {n : Nat} (J : Nat → Nat → Bool) (hn : n ≤ 8) : (gw n J).length ≤ 1048576 := by
  have h1 := gwTo_len J n n
  have : n * n ≤ 8 * 8 := Nat.mul_le_mul hn hn
  show (gwTo J n n).length ≤ _
  omega
end Go.Proofs.Ytphlpipbhaiijaa.nearv

/- The contracts of the program's sets as bits: bitsOf, has, nodes, closedBits, coversIn, cornersIn; and of slices.Contains. -/
namespace Go.Proofs.Ytphlpipbhaiijaa.bitsI
open Go.RowKit P2 words edges ints good adjs fns sets rets covs
set_option linter.unusedVariables false

theorem cell_keep {w w' : World} {b o : Nat} {v : Value} (h : w.cell? ⟨b, o, none⟩ = some v) (hb : Below w.heap.size w w') : w'.cell? ⟨b, o, none⟩ = some v :=
  (hb.cell (p := ⟨b, o, none⟩) (World.block_lt_of_cell? w (a := ⟨b, o, none⟩) h)).trans h
theorem wrap_pow {m : Nat} (hm : m ≤ 8) : IntKind.u64.wrap ((2 : Int) ^ m) = ((2 ^ m : Nat) : Int) := by
  have h : 2 ^ m ≤ 256 := by have := Nat.pow_le_pow_right (show 0 < 2 by decide) hm; simpa using this
  have h2 : ((2 : Int) ^ m) = ((2 ^ m : Nat) : Int) := by simp
  rw [h2]
  generalize 2 ^ m = p at *
  rw [IntKind.wrap_u64]; omega
theorem or_walk (a m : Nat) (ha : a < 256) (hm : m ≤ 8) : bits .or .u64 (a : Int) (IntKind.u64.wrap ((2 : Int) ^ m)) = ((a ||| 2 ^ m : Nat) : Int) := by
  have h : 2 ^ m ≤ 256 := by have := Nat.pow_le_pow_right (show 0 < 2 by decide) hm; simpa using this
  rw [wrap_pow hm, bits_or_u64_nat _ _ (by omega) (by omega)]
theorem has_walk (c k : Nat) (hc : c < 18446744073709551616) : (bits BinOp.and IntKind.u64 ((c : Int) / 2 ^ k) 1 == 1) = c.testBit k := by
  have h1 : ((c : Int) / 2 ^ k) = ((c / 2 ^ k : Nat) : Int) := by simp
  have hlt : c / 2 ^ k < 18446744073709551616 := Nat.lt_of_le_of_lt (Nat.div_le_self _ _) hc
  have h2 := bits_and_u64_nat (c / 2 ^ k) 1 hlt (by decide)
  rw [h1, show (1 : Int) = ((1 : Nat) : Int) from rfl, h2, show 1 = 2 ^ 1 - 1 from rfl, Nat.and_two_pow_sub_one_eq_mod, Nat.testBit_eq_decide_div_mod_eq, Bool.eq_iff_iff, beq_iff_eq, decide_eq_true_iff]
  omega

set_option maxHeartbeats 1000000 in
theorem has_any (c k : Nat) (w : World) (hc : c < 18446744073709551616) (hk : k ≤ 8) :
    Calls Try.prog 114 #[.int .u64 (c : Int), .int .i64 (k : Int)] w fun e w' => e = .returned (.bool (c.testBit k)) ∧ w = w' := by
  have HW := Lib.hid (has_walk c k hc)
  go_enter Try.func114, Try.ntmps114
  go_wp2_with fail
  go_ret
  exact ⟨ret_bool HW.out, rfl⟩

/-- nodesWhere over a method's value -/
theorem nodesWhere_first (n : Nat) (f : FuncId) (r : Value) (p : Nat → Bool) (w : World) (hn : n ≤ 8) (hent : ∀ (args : Array Value) (W : World), (callFunc f args).run Try.prog W = .ok (.enter f args) W)
    (hcall : ∀ W, ∀ x : Nat, x < n → Calls Try.prog f #[r, .int .i64 (x : Int)] W fun e W' => e = .returned (.bool (p x)) ∧ W = W') :
    Calls Try.prog 74 #[.int .i64 (n : Int), .func (.func f) #[r] #[]] w (RowI w (nw p n)) := by
  obtain ⟨i0, hi, hz0, hz1, hz2⟩ := info_parts infoInt
  have HC := Lib.hid hcall
  clear hcall
  go_enter Try.func74, Try.ntmps74
  go_wp2_with fail
  go_loopw [5, 8] (fun s i wr => ∃ k : Nat, k ≤ n ∧ i = .int .i64 (k : Int) ∧ wr.ownsRow w.heap.size 3 1 s (nw p k).length (cellsI (nw p k)) ∧ Below w.heap.size w wr) (fun _ i _ => n - (intOf i).toNat)
  case atStart => exact ⟨0, Nat.zero_le _, rfl, World.ownsRow_nil _ _ _ _, Below.refl _ _⟩
  case round =>
    obtain ⟨k, hk, rfl, hrow, hB⟩ := hrel
    have hlen := nw_len p k
    by_cases hlt : k < n
    · have hlt' : (k : Int) < (n : Int) := by omega
      have HCk := HC.out
      have HP := Lib.hid (fun (W : World) => HCk W k hlt)
      clear HCk
      have hsz := hB.size
      by_cases hp : p k = true
      · have HN := Lib.hid (nw_yes hp)
        rw [hp] at HP
        clear hp
        generalize nw p k = l at *
        go_wp2_with fail
        refine (HP.out _).mono ?_
        rintro e w1 ⟨rfl, rfl⟩
        go_wp2_with (at_builtin; refine wpList_append_own _ rfl _ _ 25 rfl (w.heap.size) 3 i0 (.int .i64 0) 1 8 Try.underlying25 hi hz0 hz1 hz2 rfl (by decide) _ _ _ rfl (hrow.alloc _) ⟨wr.heap.size, 0, none⟩ 1 1 [.int .i64 ((k : Int))] rfl rfl (cell_one_new _ _ _) (fun x hx => by simp at hx; subst hx; rfl) (by unfold maxLen; omega) (by omega) (by simp; omega) ?_; intro v2 w2 hown2 hgrow2 _)
        obtain ⟨hown3, hB2⟩ := push1 hrow hown2 hgrow2 hsz
        clear hgrow2 hrow hown2
        go_roundw
        case rel => exact ⟨k + 1, by omega, by go_num, by rw [HN.out]; exact hown3, hB.trans hB2⟩
        case measure => simp [intOf]; omega
      · have hp' : p k = false := by simpa using hp
        have HN := Lib.hid (nw_no hp')
        rw [hp'] at HP
        clear hp hp'
        go_wp2_with fail
        refine (HP.out _).mono ?_
        rintro e w1 ⟨rfl, rfl⟩
        go_wp2_with fail
        go_roundw
        case rel => exact ⟨k + 1, by omega, by go_num, by rw [HN.out]; exact hrow, hB⟩
        case measure => simp [intOf]; omega
    · obtain rfl : k = n := by omega
      obtain ⟨A, c, rfl⟩ := own_form hrow
      go_wp2_with fail
      go_ret
      exact ⟨A, c, rfl, hrow, hB⟩

theorem nodes_any (c : Nat) (w : World) (hc : c < 18446744073709551616) :
    Calls Try.prog 132 #[.int .u64 (c : Int)] w (RowI w (nw (bitB c) 8)) := by
  have hmf : ∀ (fn : Fn) (first cap : Array Value) (w : World), (Instr.makeFunc fn first cap).run Try.prog w = .ok (.func fn first cap) w := fun _ _ _ _ => rfl
  have HN := Lib.hid (nodesWhere_first 8 114 (.int .u64 (c : Int)) (bitB c) w (Nat.le_refl _) (fun _ _ => by kernel_rfl) (fun W x hx => has_any c x W hc (by omega)))
  go_enter Try.func132, Try.ntmps132
  go_wp2_with fail
  refine HN.out.mono ?_
  rintro e w1 ⟨A1, c1, rfl, o1, b1⟩
  go_wp2_with fail
  go_ret
  exact ⟨A1, c1, rfl, o1, b1⟩

set_option maxHeartbeats 1000000 in
theorem bitsOf_any (u : Value) (xs : List Int) (w : World) (hu : Ints w u xs) (hxl : xs.length ≤ 1048576) (hx : ∀ x ∈ xs, 0 ≤ x ∧ x < 8) :
    Calls Try.prog 96 #[u] w fun e w' => e = .returned (.int .u64 (codeL xs : Int)) ∧ w = w' := by
  obtain ⟨A2, c2, rfl, hc⟩ := hu.form
  have HC := Lib.hid hc
  have HX := Lib.hid hx
  clear hu hc hx
  go_enter Try.func96, Try.ntmps96
  go_wp2_with fail
  go_loop [3, 8] (fun s i => ∃ k : Nat, k ≤ xs.length ∧ i = .int .i64 (k : Int) ∧ s = .int .u64 (codeL (xs.take k) : Int)) (fun _ i => xs.length - (intOf i).toNat)
  case atStart => exact ⟨0, Nat.zero_le _, rfl, rfl⟩
  case round =>
    obtain ⟨k, hk, rfl, rfl⟩ := hrel
    by_cases hlt : k < xs.length
    · obtain ⟨x, hx⟩ : ∃ x, xs[k]? = some x := ⟨_, List.getElem?_eq_getElem hlt⟩
      obtain ⟨g, o, rfl, c0⟩ := HC.out k x hx
      have hlt' : (k : Int) < (xs.length : Int) := by omega
      have hx0 := HX.out x (List.mem_of_getElem? hx)
      obtain ⟨m, rfl⟩ : ∃ m : Nat, x = (m : Int) := ⟨x.toNat, by omega⟩
      have hm : m ≤ 8 := by omega
      have HS := Lib.hid (code_succ hx)
      have HT := Lib.hid (or_walk (codeL (xs.take k)) m (code_lt (m := 8) fun y hy => by have := HX.out y (List.mem_of_mem_take hy); omega) hm)
      clear hx
      go_wp2_with fail
      go_round
      case rel => exact ⟨k + 1, by omega, by go_num, by rw [HS.out, HT.out]; rfl⟩
      case measure => simp [intOf]; omega
    · obtain rfl : k = xs.length := by omega
      have HT : Hid (codeL (xs.take xs.length) = codeL xs) := by show _ = _; rw [List.take_length]
      go_wp2_with fail
      go_ret
      exact ⟨ret_int (by first | rfl | rw [HT.out]), rfl⟩

/-- a row of words -/
def cellsU (l : List Nat) : List Value := l.map fun a : Nat => .int .u64 (a : Int)
theorem cellsU_at {l : List Nat} {k x : Nat} (h : l[k]? = some x) : (cellsU l)[k]? = some (.int .u64 (x : Int)) := by simp [cellsU, h]
theorem cellsU_len (l : List Nat) : (cellsU l).length = l.length := by simp [cellsU]
theorem cellsU_set (l : List Nat) (k x : Nat) : (cellsU l).set k (.int .u64 (x : Int)) = cellsU (l.set k x) := by simp [cellsU, List.map_set]
abbrev Nums (w : World) (v : Value) (l : List Nat) : Prop := Reads w 1 v l.length (cellsU l)
theorem Nums.form {w : World} {v : Value} {l : List Nat} (h : Nums w v l) : ∃ A c, v = .slice A l.length c ∧ ∀ (k x : Nat), l[k]? = some x → ∃ g o, A = some ⟨g, o, none⟩ ∧ w.cell? ⟨g, o + k, none⟩ = some (.int .u64 (x : Int)) := by
  obtain ⟨A, c, e, hx⟩ := h
  refine ⟨A, c, e, fun k x hk => ?_⟩
  obtain ⟨g, o, rfl, _, hj⟩ := hx (by have := (List.getElem?_eq_some_iff.1 hk).1; omega)
  exact ⟨g, o, rfl, hj _ _ (cellsU_at hk)⟩
/-- the closed neighborhoods of all nodes -/
def clos (l : List Ed) (n : Nat) : List Nat := (List.range n).map (cloB l)
theorem clos_len (l : List Ed) (n : Nat) : (clos l n).length = n := by simp [clos]
theorem clos_at {l : List Ed} {n k : Nat} (h : k < n) : (clos l n)[k]? = some (cloB l k) := by simp [clos, h]

end Go.Proofs.Ytphlpipbhaiijaa.bitsI

/- How many bits a number below 256 has: the contract of bits.OnesCount and of the program's count. -/
namespace Go.Proofs.Ytphlpipbhaiijaa.bitsI
open Go.RowKit P2 words edges ints good adjs fns sets rets covs
set_option linter.unusedVariables false

/-- how many bits -/
def onesN (c : Nat) : Nat := (nw (bitB c) 8).length
theorem ones_num (p : Nat → Bool) {n : Nat} (hn : n ≤ 8) : onesN (numOf p n) = (nw p n).length := by unfold onesN; rw [nodes_num hn]
/-- the steps of OnesCount64 -/
def pop1 (x : Int) : Int := IntKind.u64.wrap (bits .and .u64 (x / 2) 6148914691236517205 + bits .and .u64 x 6148914691236517205)
def pop2 (x : Int) : Int := IntKind.u64.wrap (bits .and .u64 (x / 4) 3689348814741910323 + bits .and .u64 x 3689348814741910323)
def pop3 (x : Int) : Int := bits .and .u64 (IntKind.u64.wrap (x / 16 + x)) 1085102592571150095
def pop4 (k : Int) (x : Int) : Int := IntKind.u64.wrap (x + x / k)
def pop5 (x : Int) : Int := bits .and .i64 (wrap64 x) 127
theorem pop_is : ∀ c : Fin 256, pop5 (pop4 4294967296 (pop4 65536 (pop4 256 (pop3 (pop2 (pop1 (c.1 : Int))))))) = (onesN c.1 : Int) := by decide +kernel
set_option maxHeartbeats 1000000 in
set_option maxRecDepth 100000 in
theorem ones64_any (c : Nat) (w : World) (hc : c < 256) :
    Calls Try.prog 158 #[.int .u64 (c : Int)] w fun e w' => e = .returned (.int .i64 (onesN c : Int)) ∧ w = w' := by
  go_enter Try.func158, Try.ntmps158
  go_wp2_with fail
  go_ret
  exact ⟨ret_int (pop_is ⟨c, hc⟩), rfl⟩
theorem ones_any (c : Nat) (w : World) (hc : c < 256) :
    Calls Try.prog 116 #[.int .u64 (c : Int)] w fun e w' => e = .returned (.int .i64 (onesN c : Int)) ∧ w = w' := by
  have HO := Lib.hid (ones64_any c w hc)
  go_enter Try.func116, Try.ntmps116
  go_wp2_with fail
  refine HO.out.mono ?_
  rintro e w' ⟨rfl, rfl⟩
  go_wp2_with fail
  go_ret
  exact ⟨rfl, rfl⟩
theorem count_any (c : Nat) (w : World) (hc : c < 256) :
    Calls Try.prog 68 #[.int .u64 (c : Int)] w fun e w' => e = .returned (.int .i64 (onesN c : Int)) ∧ w = w' := by
  have HO := Lib.hid (ones_any c w hc)
  go_enter Try.func68, Try.ntmps68
  go_wp2_with fail
  refine HO.out.mono ?_
  rintro e w' ⟨rfl, rfl⟩
  go_wp2_with fail
  go_ret
  exact ⟨rfl, rfl⟩
end Go.Proofs.Ytphlpipbhaiijaa.bitsI

/- Least costs over all orders, forwards and backwards: plain mathematics. -/
namespace Go.Proofs.Ytphlpipbhaiijaa.costs
open Go.RowKit P2 words edges ints good adjs fns sets rets covs reach bags bitsI fronts
set_option linter.unusedVariables false

theorem or_all : ∀ (d : Fin 256) (x : Fin 8), d.1.testBit x.1 = false → (d.1 ||| 2 ^ x.1) = d.1 + 2 ^ x.1 ∧ (d.1 ||| 2 ^ x.1).testBit x.1 = true := by decide +kernel
theorem sub_all : ∀ (d : Fin 256) (x : Fin 8), d.1.testBit x.1 = true → 2 ^ x.1 ≤ d.1 ∧ (d.1 - 2 ^ x.1).testBit x.1 = false := by decide +kernel
theorem bit_out : ∀ (n : Fin 9) (c : Fin 256), c.1 < 2 ^ n.1 - 1 → ∃ x : Fin 8, x.1 < n.1 ∧ c.1.testBit x.1 = false := by decide +kernel
theorem bit_in : ∀ (n : Fin 9) (c : Fin 256), c.1 < 2 ^ n.1 → c.1 ≠ 0 → ∃ x : Fin 8, x.1 < n.1 ∧ c.1.testBit x.1 = true := by decide +kernel
theorem pow8 {n : Nat} (hn : n ≤ 8) : 2 ^ n ≤ 256 := by have := Nat.pow_le_pow_right (show 0 < 2 by decide) hn; simpa using this
theorem or_is {d x : Nat} (hd : d < 256) (hx : x < 8) (h : d.testBit x = false) : d ||| 2 ^ x = d + 2 ^ x := (or_all ⟨d, hd⟩ ⟨x, hx⟩ h).1
theorem or_bit {d x : Nat} (hd : d < 256) (hx : x < 8) (h : d.testBit x = false) : (d ||| 2 ^ x).testBit x = true := (or_all ⟨d, hd⟩ ⟨x, hx⟩ h).2
theorem sub_le {d x : Nat} (hd : d < 256) (hx : x < 8) (h : d.testBit x = true) : 2 ^ x ≤ d := (sub_all ⟨d, hd⟩ ⟨x, hx⟩ h).1
theorem sub_bit {d x : Nat} (hd : d < 256) (hx : x < 8) (h : d.testBit x = true) : (d - 2 ^ x).testBit x = false := (sub_all ⟨d, hd⟩ ⟨x, hx⟩ h).2
theorem or_lt {n d x : Nat} (hd : d < 2 ^ n) (hx : x < n) : d ||| 2 ^ x < 2 ^ n := Nat.or_lt_two_pow hd (Nat.pow_lt_pow_right (by decide) hx)
theorem or_gt {d x : Nat} (hd : d < 256) (hx : x < 8) (h : d.testBit x = false) : d < d ||| 2 ^ x := by rw [or_is hd hx h]; have := Nat.two_pow_pos x; omega
theorem sub_or {d x : Nat} (hd : d < 256) (hx : x < 8) (h : d.testBit x = true) : (d - 2 ^ x) ||| 2 ^ x = d := by
  have := sub_le hd hx h
  rw [or_is (Nat.lt_of_le_of_lt (Nat.sub_le _ _) hd) hx (sub_bit hd hx h)]; exact Nat.sub_add_cancel this
theorem out_bit {n c : Nat} (hn : n ≤ 8) (hc : c < 2 ^ n - 1) : ∃ x, x < n ∧ c.testBit x = false := by
  have := pow8 hn
  obtain ⟨x, h1, h2⟩ := bit_out ⟨n, by omega⟩ ⟨c, by omega⟩ hc
  exact ⟨x.1, h1, h2⟩
theorem in_bit {n c : Nat} (hn : n ≤ 8) (hc : c < 2 ^ n) (h0 : c ≠ 0) : ∃ x, x < n ∧ c.testBit x = true := by
  have := pow8 hn
  obtain ⟨x, h1, h2⟩ := bit_in ⟨n, by omega⟩ ⟨c, by omega⟩ hc h0
  exact ⟨x.1, h1, h2⟩

/-- from one set to another one, node by node, each one at a cost of at most u -/
inductive Ch (n : Nat) (cost : Nat → Nat → Int) (u : Int) : Nat → Nat → Prop
  | refl (c : Nat) : Ch n cost u c c
  | step {c d x : Nat} : Ch n cost u c d → x < n → d.testBit x = false → cost d x ≤ u → Ch n cost u c (d ||| 2 ^ x)
theorem Ch.trans {n : Nat} {cost : Nat → Nat → Int} {u : Int} {a b c : Nat} (h1 : Ch n cost u a b) (h2 : Ch n cost u b c) : Ch n cost u a c := by
  induction h2 with
  | refl => exact h1
  | step _ hx hb hc ih => exact .step ih hx hb hc
theorem Ch.head {n : Nat} {cost : Nat → Nat → Int} {u : Int} {c d : Nat} (h : Ch n cost u c d) : c = d ∨ ∃ x, x < n ∧ c.testBit x = false ∧ cost c x ≤ u ∧ Ch n cost u (c ||| 2 ^ x) d := by
  induction h with
  | refl => exact .inl rfl
  | step _ hx hb hc ih =>
    refine .inr ?_
    rcases ih with rfl | ⟨y, h1, h2, h3, h4⟩
    · exact ⟨_, hx, hb, hc, .refl _⟩
    · exact ⟨y, h1, h2, h3, .step h4 hx hb hc⟩

/-- the least costs of what is left, for each set that is gone -/
def LcAt (n : Nat) (cost : Nat → Nat → Int) (C : Nat → Int) (c : Nat) : Prop :=
  (∃ x, x < n ∧ c.testBit x = false ∧ C c = max (cost c x) (C (c ||| 2 ^ x))) ∧ ∀ x, x < n → c.testBit x = false → C c ≤ max (cost c x) (C (c ||| 2 ^ x))
theorem lc_ch {n : Nat} {cost : Nat → Nat → Int} {C : Nat → Int} {nil : Int} (hn : n ≤ 8) (hfull : C (2 ^ n - 1) = nil) (h : ∀ c, c < 2 ^ n - 1 → LcAt n cost C c) {u : Int} (hu : nil ≤ u) :
    ∀ k c, c < 2 ^ n → 2 ^ n - 1 - c ≤ k → (C c ≤ u ↔ Ch n cost u c (2 ^ n - 1)) := by
  have hp := pow8 hn
  have hp0 := Nat.two_pow_pos n
  intro k
  induction k with
  | zero =>
    intro c hc hk
    obtain rfl : c = 2 ^ n - 1 := by omega
    rw [hfull]
    exact ⟨fun _ => .refl _, fun _ => hu⟩
  | succ k ih =>
    intro c hc hk
    by_cases e : c = 2 ^ n - 1
    · subst e
      rw [hfull]
      exact ⟨fun _ => .refl _, fun _ => hu⟩
    · obtain ⟨⟨x, hx, hb, hC⟩, hle⟩ := h c (by omega)
      have hstep : ∀ y, y < n → c.testBit y = false → (C (c ||| 2 ^ y) ≤ u ↔ Ch n cost u (c ||| 2 ^ y) (2 ^ n - 1)) := fun y hy hby =>
        ih _ (or_lt hc hy) (by have := or_gt (x := y) (by omega : c < 256) (by omega) hby; omega)
      constructor
      · intro hcu
        rw [hC] at hcu
        have h1 : cost c x ≤ u := by omega
        have h2 : C (c ||| 2 ^ x) ≤ u := by omega
        exact (Ch.step (.refl c) hx hb h1).trans ((hstep x hx hb).1 h2)
      · intro hch
        rcases hch.head with rfl | ⟨y, hy, hby, hcy, h4⟩
        · exact absurd rfl e
        · have := hle y hy hby
          have := (hstep y hy hby).2 h4
          omega
/-- the least costs up to each set -/
def WAt (n : Nat) (cost : Nat → Nat → Int) (W : Nat → Int) (d : Nat) : Prop :=
  (∃ x, x < n ∧ d.testBit x = true ∧ W d = max (cost (d - 2 ^ x) x) (W (d - 2 ^ x))) ∧ ∀ x, x < n → d.testBit x = true → W d ≤ max (cost (d - 2 ^ x) x) (W (d - 2 ^ x))
theorem w_ch {n : Nat} {cost : Nat → Nat → Int} {W : Nat → Int} {nil : Int} (hn : n ≤ 8) (h0 : W 0 = nil) (h : ∀ d, d < 2 ^ n → d ≠ 0 → WAt n cost W d) {u : Int} (hu : nil ≤ u) :
    ∀ k d, d < 2 ^ n → d ≤ k → (W d ≤ u ↔ Ch n cost u 0 d) := by
  have hp := pow8 hn
  intro k
  induction k with
  | zero =>
    intro d hd hk
    obtain rfl : d = 0 := by omega
    rw [h0]
    exact ⟨fun _ => .refl _, fun _ => hu⟩
  | succ k ih =>
    intro d hd hk
    by_cases e : d = 0
    · subst e
      rw [h0]
      exact ⟨fun _ => .refl _, fun _ => hu⟩
    · obtain ⟨⟨x, hx, hb, hW⟩, hle⟩ := h d hd e
      have hstep : ∀ y, y < n → d.testBit y = true → (W (d - 2 ^ y) ≤ u ↔ Ch n cost u 0 (d - 2 ^ y)) := fun y hy hby =>
        ih _ (Nat.lt_of_le_of_lt (Nat.sub_le _ _) hd) (by have := Nat.sub_lt (Nat.pos_of_ne_zero e) (Nat.two_pow_pos y); omega)
      constructor
      · intro hdu
        rw [hW] at hdu
        have h1 : cost (d - 2 ^ x) x ≤ u := by omega
        have h2 : W (d - 2 ^ x) ≤ u := by omega
        have h3 := Ch.step ((hstep x hx hb).1 h2) hx (sub_bit (by omega) (by omega) hb) h1
        rwa [sub_or (by omega) (by omega) hb] at h3
      · intro hch
        generalize hz : (0 : Nat) = z at hch
        cases hch with
        | refl => exact absurd hz.symm e
        | @step e2 y hc hy hby hcy =>
          subst hz
          have he : e2 < 256 := by
            have : e2 ≤ e2 ||| 2 ^ y := Nat.left_le_or
            omega
          have h1 : (e2 ||| 2 ^ y) - 2 ^ y = e2 := by rw [or_is he (by omega) hby]; exact Nat.add_sub_cancel _ _
          have h2 := or_bit he (by omega) hby
          have h3 := hle y hy h2
          have h4 := hstep y hy h2
          rw [h1] at h3 h4
          have := h4.2 hc
          omega
/-- the least cost of all orders: what each search for it finds -/
def Least (n : Nat) (cost : Nat → Nat → Int) (nil v : Int) : Prop := nil ≤ v ∧ ∀ u, nil ≤ u → (v ≤ u ↔ Ch n cost u 0 (2 ^ n - 1))
theorem Least.one {n : Nat} {cost : Nat → Nat → Int} {nil a b : Int} (ha : Least n cost nil a) (hb : Least n cost nil b) : a = b := by
  have h1 := (ha.2 b hb.1).2 ((hb.2 b hb.1).1 (Int.le_refl _))
  have h2 := (hb.2 a ha.1).2 ((ha.2 a ha.1).1 (Int.le_refl _))
  omega
theorem lc_least {n : Nat} {cost : Nat → Nat → Int} {C : Nat → Int} {nil : Int} (hn : n ≤ 8) (hfull : C (2 ^ n - 1) = nil) (h : ∀ c, c < 2 ^ n - 1 → LcAt n cost C c) (h0 : nil ≤ C 0) : Least n cost nil (C 0) :=
  ⟨h0, fun u hu => lc_ch hn hfull h hu _ 0 (Nat.two_pow_pos n) (Nat.le_refl _)⟩
theorem w_least {n : Nat} {cost : Nat → Nat → Int} {W : Nat → Int} {nil : Int} (hn : n ≤ 8) (h0 : W 0 = nil) (h : ∀ d, d < 2 ^ n → d ≠ 0 → WAt n cost W d) (h1 : nil ≤ W (2 ^ n - 1)) : Least n cost nil (W (2 ^ n - 1)) :=
  ⟨h1, fun u hu => w_ch hn h0 h hu _ _ (by have := Nat.two_pow_pos n; omega) (Nat.le_refl _)⟩
/-- the costs of a layout: how many nodes are in the front -/
noncomputable def frontN (l : List Ed) (n d : Nat) : Int := ((nw (frontB l n (bitB d)) n).length : Int)
noncomputable def frontC (l : List Ed) (n d x : Nat) : Int := frontN l n (d ||| 2 ^ x)
noncomputable def leastV (n : Nat) (cost : Nat → Nat → Int) (nil : Int) : Int := open Classical in if h : ∃ v, Least n cost nil v then h.choose else 0
theorem Least.is {n : Nat} {cost : Nat → Nat → Int} {nil v : Int} (h : Least n cost nil v) : leastV n cost nil = v := by
  have hex : ∃ v, Least n cost nil v := ⟨v, h⟩
  unfold leastV
  rw [dif_pos hex]
  exact Least.one hex.choose_spec h
end Go.Proofs.Ytphlpipbhaiijaa.costs

/- The contract of slices.Repeat of one number. -/
namespace Go.Proofs.Ytphlpipbhaiijaa.reps
open Go.RowKit P2 words ints fns
set_option linter.unusedVariables false

theorem mul64_small (n : Nat) (hn : n ≤ 8) (w : World) :
    Calls Try.prog 176 #[.int .u64 1, .int .u64 (n : Int)] w fun e w' => e = .returned (.tuple #[.int .u64 0, .int .u64 (n : Int)]) ∧ w = w' := by
  have hc : n = 0 ∨ n = 1 ∨ n = 2 ∨ n = 3 ∨ n = 4 ∨ n = 5 ∨ n = 6 ∨ n = 7 ∨ n = 8 := by omega
  rcases hc with rfl | rfl | rfl | rfl | rfl | rfl | rfl | rfl | rfl
  all_goals
    go_enter Try.func176, Try.ntmps176
    go_wp2_with fail
    go_ret2
    exact ⟨rfl, rfl⟩
theorem mul_small (n : Nat) (hn : n ≤ 8) (w : World) :
    Calls Try.prog 172 #[.int .u64 1, .int .u64 (n : Int)] w fun e w' => e = .returned (.tuple #[.int .u64 0, .int .u64 (n : Int)]) ∧ w = w' := by
  have HM := Lib.hid (mul64_small n hn w)
  have h1 : (n : Int) ≤ 8 := by omega
  go_enter Try.func172, Try.ntmps172
  go_wp2_with fail
  refine HM.out.mono ?_
  rintro e w' ⟨rfl, rfl⟩
  go_wp2_with fail
  go_ret2
  exact ⟨rfl, rfl⟩

theorem oneI (l : List Int) : ∀ x ∈ cellsI l, x.oneCell' = true := fun x hx => by
  simp only [cellsI, List.mem_map] at hx
  obtain ⟨e, _, rfl⟩ := hx
  rfl
theorem addr_add (g o j : Nat) : (⟨g, o, none⟩ : Addr).add j = ⟨g, o + j, none⟩ := by unfold Addr.add; split <;> simp_all
/-- k numbers, then noughts -/
def filled (x : Int) (n k : Nat) : List Value := cellsI (List.replicate k x ++ List.replicate (n - k) 0)
theorem filled_len (x : Int) (n k : Nat) (h : k ≤ n) : (filled x n k).length = n := by simp [filled, cellsI]; omega
theorem filled_all (x : Int) (n : Nat) : filled x n n = cellsI (List.replicate n x) := by simp [filled]
theorem filled_splice (x : Int) {n k j : Nat} (h : k + j ≤ n) : splice (filled x n k) k (cellsI (List.replicate j x)) = filled x n (k + j) := by
  unfold filled splice cellsI
  rw [← List.map_take, ← List.map_drop, ← List.map_append, ← List.map_append]
  congr 1
  rw [List.take_append_of_le_length (by simp), List.take_of_length_le (by simp), List.drop_append]
  simp only [List.length_map, List.length_replicate, List.drop_replicate]
  rw [show k - (k + j) = 0 from by omega, List.replicate_zero, List.nil_append, show n - k - (k + j - k) = n - (k + j) from by omega, ← List.append_assoc, List.replicate_append_replicate]
theorem made1 (n : Nat) : (madeCells #[Value.int .i64 0] (n * 1)).toList = filled 0 n 0 := by
  rw [toList_madeCells_one]
  simp [filled, cellsI]

set_option maxHeartbeats 2000000 in
set_option maxRecDepth 100000 in
theorem repeat_any (x : Int) (g0 n : Nat) (w : World) (hn : n ≤ 8) (hn1 : 1 ≤ n) (hx : w.cell? ⟨g0, 0, none⟩ = some (.int .i64 x)) :
    Calls Try.prog 160 #[.slice (some ⟨g0, 0, none⟩) 1 1, .int .i64 (n : Int)] w fun e w' => ∃ A c, e = .returned (.slice A (List.replicate n x).length c) ∧
      w'.ownsRow w.heap.size 3 1 (.slice A (List.replicate n x).length c) (List.replicate n x).length (cellsI (List.replicate n x)) ∧ Below w.heap.size w w' := by
  obtain ⟨i0, hi, hz0, hz1, hz2⟩ := info_parts infoInt
  have HM := Lib.hid (mul_small n hn w)
  have hsz1 : (Try.prog.info? 3).map (·.size) = some 1 := by kernel_rfl
  have h1 : (n : Int) ≤ 8 := by omega
  have h2 : (0 : Int) ≤ (n : Int) := by omega
  have hmk := fun (W : World) => run_make_rowN (P := Try.prog) 25 3 i0 (.int .i64 0) Try.underlying25 hi hz0 .i64 .i64 n n (Nat.le_refl _) (by rw [hz2]; omega) (by omega) W
  go_enter Try.func160, Try.ntmps160
  go_wp2_with fail
  refine HM.out.mono ?_
  rintro e w' ⟨rfl, rfl⟩
  have hlt0 := World.block_lt_of_cell? w (a := ⟨g0, 0, none⟩) hx
  have hB0 : Below w.heap.size w (w.alloc (.cells (madeCells #[.int .i64 0] n) 3)) := (Below.refl _ _).alloc (Nat.le_refl _) _
  have hx1 : (w.alloc (.cells (madeCells #[.int .i64 0] n) 3)).cell? ⟨g0, 0, none⟩ = some (.int .i64 x) := (hB0.cell (p := ⟨g0, 0, none⟩) hlt0).trans hx
  have hG0 : Hid ((w.alloc (.cells (madeCells #[.int .i64 0] n) 3)).heap[w.heap.size]? = some (.cells (filled x n 0).toArray 3 (0, 0))) := by
    have e : (madeCells #[Value.int .i64 0] n) = (filled x n 0).toArray := by
      have := made1 n
      rw [Nat.mul_one] at this
      rw [show filled x n 0 = filled 0 n 0 from by simp [filled], ← this]
    rw [e]; exact Blk.new _ _ _
  have hl0 := filled_len x n 0 (Nat.zero_le _)
  have hS0 : Hid (splice (filled x n 0) 0 [.int .i64 x] = filled x n 1) := by show _ = _; have := filled_splice x (n := n) (k := 0) (j := 1) (by omega); simpa [cellsI] using this
  have HX := Lib.hid hx1
  have HB := Lib.hid hB0
  have HL := Lib.hid hl0
  clear hx hx1 hB0 hl0
  have HSRC : Hid (∀ (j : Nat) (v : Value), [Value.int .i64 x][j]? = some v → (w.alloc (.cells (madeCells #[.int .i64 0] n) 3)).cell? ((⟨g0, 0, none⟩ : Addr).add j) = some v) := fun j v hj => by
    match j, hj with
    | 0, hj =>
      cases hj
      rw [addr_add]
      exact HX.out
  have HFIT : Hid (0 + [Value.int .i64 x].length ≤ (filled x n 0).length) := by show _ ≤ _; rw [HL.out]; exact hn1
  have HMIN : Hid ([Value.int .i64 x].length = Nat.min 1 n) := by show 1 = min 1 n; omega
  go_wp2_with (refine wpList_copy_splice (o := ⟨some 33, _, _, _, _, _⟩) rfl (.tmp 31) (.tmp 32) 25 25 rfl 3 Try.underlying25 hsz1 (some ⟨w.heap.size, 0, none⟩) (some ⟨g0, 0, none⟩) n n 1 1 rfl rfl w.heap.size 0 (filled x n 0) 3 hG0.out [.int .i64 x] HMIN.out (fun _ => ⟨rfl, _, rfl, HSRC.out⟩) HFIT.out (oneI [x]) w.heap.size w HB.out (Nat.le_refl _) ?_; intro w1 hg1 hb1)
  rw [hS0.out] at hg1
  clear hG0 hS0 HX HB HL hmk HSRC HFIT HMIN
  have HG1 : Hid (Blk w1 w.heap.size 3 (filled x n 1).toArray) := hg1
  clear hg1
  go_loopg [8] n (fun g i wr => ∃ k : Nat, 1 ≤ k ∧ k ≤ n ∧ n ≤ k + g ∧ i = .int .i64 (k : Int) ∧ Hid (Blk wr w.heap.size 3 (filled x n k).toArray) ∧ Below w.heap.size w wr)
  case atStart => exact ⟨1, by omega, hn1, by omega, rfl, HG1, hb1⟩
  case round =>
    obtain ⟨k, hk1, hkn, hkg, rfl, hgb, hB⟩ := hrel
    by_cases hlt : k < n
    · have hlt' : (k : Int) < (n : Int) := by omega
      obtain ⟨jj, hjj⟩ : ∃ jj, jj = min k (n - k) := ⟨_, rfl⟩
      obtain ⟨cs, hcs⟩ : ∃ cs, cs = cellsI (List.replicate jj x) := ⟨_, rfl⟩
      have hcl : cs.length = jj := by rw [hcs]; simp [cellsI]
      have HSP : Hid (splice (filled x n k) k cs = filled x n (k + jj)) := by show _ = _; rw [hcs]; exact filled_splice x (by omega)
      have hL : Hid ((filled x n k).length = n) := filled_len x n k hkn
      have HFIT : Hid (k + cs.length ≤ (filled x n k).length) := by show _ ≤ _; rw [hL.out, hcl]; omega
      have HMIN : Hid (cs.length = Nat.min k (n - k)) := by show _ = min k (n - k); rw [hcl, hjj]
      have HSRC : Hid (∀ (j : Nat) (v : Value), cs[j]? = some v → wr.drew.cell? ((⟨w.heap.size, 0, none⟩ : Addr).add j) = some v) := fun j v hj => by
        have hjl := (List.getElem?_eq_some_iff.1 hj).1
        rw [hcl] at hjl
        have hv : v = .int .i64 x := by
          rw [hcs] at hj
          simp [cellsI, List.getElem?_replicate] at hj
          exact hj.2.symm
        subst hv
        rw [addr_add]
        show wr.cell? ⟨w.heap.size, 0 + j, none⟩ = _
        rw [Nat.zero_add, hgb.out.cell j]
        simp [filled, cellsI, List.getElem?_append, show j < k from by omega]
      have HO := Lib.hid (show ∀ y ∈ cs, y.oneCell' = true from by rw [hcs]; exact oneI _)
      have hG : Hid (wr.drew.heap[w.heap.size]? = some (.cells (filled x n k).toArray 3 (0, 0))) := hgb.out
      have hBd := Lib.hid hB.drew
      have hne : (n == k) = false := by simp; omega
      have hne2 : ¬ (n = k) := by omega
      have hj8 : (jj : Int) ≤ 8 := by omega
      have HJ := Lib.hid hjj
      have HCL := Lib.hid hcl
      have HW : Hid (IntKind.i64.wrap ((k : Int) + (cs.length : Int)) = (k : Int) + (cs.length : Int)) := by show _ = _; rw [hcl]; exact IntWalk.i64_in _ (by omega)
      clear hcs hgb hjj hcl
      go_wp2_with fail
      go_region_law (refine step_copy_splice rfl (.tmp 41) (.tmp 44) 25 25 rfl 3 Try.underlying25 hsz1 (some ⟨w.heap.size, k, none⟩) (some ⟨w.heap.size, 0, none⟩) (n - k) (n - k) k n ?_ ?_ w.heap.size k (filled x n k) 3 hG.out cs HMIN.out (fun _ => ⟨rfl, _, rfl, HSRC.out⟩) HFIT.out HO.out w.heap.size w hBd.out (Nat.le_refl _) ?_; (focus go_simp); (focus go_simp); intro w4 hg4 hb4)
      rw [HSP.out] at hg4
      have HG4 : Hid (Blk w4 w.heap.size 3 (filled x n (k + jj)).toArray) := hg4
      have HB4 := Lib.hid hb4
      have hcl8 : (cs.length : Int) ≤ 8 := by rw [HCL.out]; exact hj8
      have HJN := Lib.hid (show k + jj ≤ n ∧ 1 ≤ jj ∧ n ≤ k + gk + 0 from by have := HJ.out; omega)
      clear hg4 hb4 hG hBd HO HSRC HMIN HFIT hL HSP HJ hB
      go_wp2_with fail
      cases gk with
      | zero => omega
      | succ g2 =>
        go_roundg g2
        case measure => omega
        case rel => exact ⟨k + cs.length, by omega, by have := HJN.out; have := HCL.out; omega, by have := HJN.out; have := HCL.out; omega, by first | (rw [HW.out]; go_num) | go_num, by rw [HCL.out]; exact HG4, HB4.out⟩
    · obtain rfl : k = n := by omega
      have HF : Hid ((filled x k k).toArray.toList = cellsI (List.replicate k x)) := by show _ = _; rw [filled_all]
      have HL : Hid ((filled x k k).toArray.size = k) := by show _ = _; simpa using filled_len x k k (Nat.le_refl _)
      have hge : ¬ ((k : Int) < (k : Int)) := by omega
      go_wp2_with fail
      go_ret
      refine ⟨some ⟨w.heap.size, 0, none⟩, k, by simp [go_sem], ⟨by simp [cellsI], .inr ⟨w.heap.size, k, _, by simp, Nat.le_refl _, hgb.out, by simp, by unfold maxLen; omega, by rw [HL.out, Nat.mul_one], ?_⟩⟩, hB⟩
      rw [HF.out, Nat.mul_one]
      exact List.take_of_length_le (by simp [cellsI])
end Go.Proofs.Ytphlpipbhaiijaa.reps

/- The contract of slices.Repeat of one number, up to 256 times. -/
namespace Go.Proofs.Ytphlpipbhaiijaa.reps
open Go.RowKit P2 words ints fns
set_option linter.unusedVariables false

theorem mul64_pow (s : Nat) (hs : s ≤ 8) (w : World) :
    Calls Try.prog 176 #[.int .u64 1, .int .u64 ((2 ^ s : Nat) : Int)] w fun e w' => e = .returned (.tuple #[.int .u64 0, .int .u64 ((2 ^ s : Nat) : Int)]) ∧ w = w' := by
  have hc : s = 0 ∨ s = 1 ∨ s = 2 ∨ s = 3 ∨ s = 4 ∨ s = 5 ∨ s = 6 ∨ s = 7 ∨ s = 8 := by omega
  rcases hc with rfl | rfl | rfl | rfl | rfl | rfl | rfl | rfl | rfl
  all_goals
    simp only [Nat.reducePow]
    go_enter Try.func176, Try.ntmps176
    go_wp2_with fail
    go_ret2
    exact ⟨rfl, rfl⟩
theorem mul_pow (s : Nat) (hs : s ≤ 8) (w : World) :
    Calls Try.prog 172 #[.int .u64 1, .int .u64 ((2 ^ s : Nat) : Int)] w fun e w' => e = .returned (.tuple #[.int .u64 0, .int .u64 ((2 ^ s : Nat) : Int)]) ∧ w = w' := by
  have HM := Lib.hid (mul64_pow s hs w)
  have hp : 2 ^ s ≤ 256 := by have := Nat.pow_le_pow_right (show 0 < 2 by decide) hs; simpa using this
  generalize 2 ^ s = n at *
  have h1 : (n : Int) ≤ 256 := by omega
  go_enter Try.func172, Try.ntmps172
  go_wp2_with fail
  refine HM.out.mono ?_
  rintro e w' ⟨rfl, rfl⟩
  go_wp2_with fail
  go_ret2
  exact ⟨rfl, rfl⟩
set_option maxHeartbeats 2000000 in
set_option maxRecDepth 100000 in
theorem repeat_big (x : Int) (g0 n : Nat) (w : World) (hn : n ≤ 256) (hn1 : 1 ≤ n) (HMU : ∀ w, Calls Try.prog 172 #[.int .u64 1, .int .u64 (n : Int)] w fun e w' => e = .returned (.tuple #[.int .u64 0, .int .u64 (n : Int)]) ∧ w = w') (hx : w.cell? ⟨g0, 0, none⟩ = some (.int .i64 x)) :
    Calls Try.prog 160 #[.slice (some ⟨g0, 0, none⟩) 1 1, .int .i64 (n : Int)] w fun e w' => ∃ A c, e = .returned (.slice A (List.replicate n x).length c) ∧
      w'.ownsRow w.heap.size 3 1 (.slice A (List.replicate n x).length c) (List.replicate n x).length (cellsI (List.replicate n x)) ∧ Below w.heap.size w w' := by
  obtain ⟨i0, hi, hz0, hz1, hz2⟩ := info_parts infoInt
  have HM := Lib.hid (HMU w)
  have hsz1 : (Try.prog.info? 3).map (·.size) = some 1 := by kernel_rfl
  have h1 : (n : Int) ≤ 256 := by omega
  have h2 : (0 : Int) ≤ (n : Int) := by omega
  have hmk := fun (W : World) => run_make_rowN (P := Try.prog) 25 3 i0 (.int .i64 0) Try.underlying25 hi hz0 .i64 .i64 n n (Nat.le_refl _) (by rw [hz2]; omega) (by omega) W
  go_enter Try.func160, Try.ntmps160
  go_wp2_with fail
  refine HM.out.mono ?_
  rintro e w' ⟨rfl, rfl⟩
  have hlt0 := World.block_lt_of_cell? w (a := ⟨g0, 0, none⟩) hx
  have hB0 : Below w.heap.size w (w.alloc (.cells (madeCells #[.int .i64 0] n) 3)) := (Below.refl _ _).alloc (Nat.le_refl _) _
  have hx1 : (w.alloc (.cells (madeCells #[.int .i64 0] n) 3)).cell? ⟨g0, 0, none⟩ = some (.int .i64 x) := (hB0.cell (p := ⟨g0, 0, none⟩) hlt0).trans hx
  have hG0 : Hid ((w.alloc (.cells (madeCells #[.int .i64 0] n) 3)).heap[w.heap.size]? = some (.cells (filled x n 0).toArray 3 (0, 0))) := by
    have e : (madeCells #[Value.int .i64 0] n) = (filled x n 0).toArray := by
      have := made1 n
      rw [Nat.mul_one] at this
      rw [show filled x n 0 = filled 0 n 0 from by simp [filled], ← this]
    rw [e]; exact Blk.new _ _ _
  have hl0 := filled_len x n 0 (Nat.zero_le _)
  have hS0 : Hid (splice (filled x n 0) 0 [.int .i64 x] = filled x n 1) := by show _ = _; have := filled_splice x (n := n) (k := 0) (j := 1) (by omega); simpa [cellsI] using this
  have HX := Lib.hid hx1
  have HB := Lib.hid hB0
  have HL := Lib.hid hl0
  clear hx hx1 hB0 hl0
  have HSRC : Hid (∀ (j : Nat) (v : Value), [Value.int .i64 x][j]? = some v → (w.alloc (.cells (madeCells #[.int .i64 0] n) 3)).cell? ((⟨g0, 0, none⟩ : Addr).add j) = some v) := fun j v hj => by
    match j, hj with
    | 0, hj =>
      cases hj
      rw [addr_add]
      exact HX.out
  have HFIT : Hid (0 + [Value.int .i64 x].length ≤ (filled x n 0).length) := by show _ ≤ _; rw [HL.out]; exact hn1
  have HMIN : Hid ([Value.int .i64 x].length = Nat.min 1 n) := by show 1 = min 1 n; omega
  go_wp2_with (refine wpList_copy_splice (o := ⟨some 33, _, _, _, _, _⟩) rfl (.tmp 31) (.tmp 32) 25 25 rfl 3 Try.underlying25 hsz1 (some ⟨w.heap.size, 0, none⟩) (some ⟨g0, 0, none⟩) n n 1 1 rfl rfl w.heap.size 0 (filled x n 0) 3 hG0.out [.int .i64 x] HMIN.out (fun _ => ⟨rfl, _, rfl, HSRC.out⟩) HFIT.out (oneI [x]) w.heap.size w HB.out (Nat.le_refl _) ?_; intro w1 hg1 hb1)
  rw [hS0.out] at hg1
  clear hG0 hS0 HX HB HL hmk HSRC HFIT HMIN
  have HG1 : Hid (Blk w1 w.heap.size 3 (filled x n 1).toArray) := hg1
  clear hg1
  go_loopg [8] n (fun g i wr => ∃ k : Nat, 1 ≤ k ∧ k ≤ n ∧ n ≤ k + g ∧ i = .int .i64 (k : Int) ∧ Hid (Blk wr w.heap.size 3 (filled x n k).toArray) ∧ Below w.heap.size w wr)
  case atStart => exact ⟨1, by omega, hn1, by omega, rfl, HG1, hb1⟩
  case round =>
    obtain ⟨k, hk1, hkn, hkg, rfl, hgb, hB⟩ := hrel
    by_cases hlt : k < n
    · have hlt' : (k : Int) < (n : Int) := by omega
      obtain ⟨jj, hjj⟩ : ∃ jj, jj = min k (n - k) := ⟨_, rfl⟩
      obtain ⟨cs, hcs⟩ : ∃ cs, cs = cellsI (List.replicate jj x) := ⟨_, rfl⟩
      have hcl : cs.length = jj := by rw [hcs]; simp [cellsI]
      have HSP : Hid (splice (filled x n k) k cs = filled x n (k + jj)) := by show _ = _; rw [hcs]; exact filled_splice x (by omega)
      have hL : Hid ((filled x n k).length = n) := filled_len x n k hkn
      have HFIT : Hid (k + cs.length ≤ (filled x n k).length) := by show _ ≤ _; rw [hL.out, hcl]; omega
      have HMIN : Hid (cs.length = Nat.min k (n - k)) := by show _ = min k (n - k); rw [hcl, hjj]
      have HSRC : Hid (∀ (j : Nat) (v : Value), cs[j]? = some v → wr.drew.cell? ((⟨w.heap.size, 0, none⟩ : Addr).add j) = some v) := fun j v hj => by
        have hjl := (List.getElem?_eq_some_iff.1 hj).1
        rw [hcl] at hjl
        have hv : v = .int .i64 x := by
          rw [hcs] at hj
          simp [cellsI, List.getElem?_replicate] at hj
          exact hj.2.symm
        subst hv
        rw [addr_add]
        show wr.cell? ⟨w.heap.size, 0 + j, none⟩ = _
        rw [Nat.zero_add, hgb.out.cell j]
        simp [filled, cellsI, List.getElem?_append, show j < k from by omega]
      have HO := Lib.hid (show ∀ y ∈ cs, y.oneCell' = true from by rw [hcs]; exact oneI _)
      have hG : Hid (wr.drew.heap[w.heap.size]? = some (.cells (filled x n k).toArray 3 (0, 0))) := hgb.out
      have hBd := Lib.hid hB.drew
      have hne : (n == k) = false := by simp; omega
      have hne2 : ¬ (n = k) := by omega
      have hj8 : (jj : Int) ≤ 256 := by omega
      have HJ := Lib.hid hjj
      have HCL := Lib.hid hcl
      have HW : Hid (IntKind.i64.wrap ((k : Int) + (cs.length : Int)) = (k : Int) + (cs.length : Int)) := by show _ = _; rw [hcl]; exact IntWalk.i64_in _ (by omega)
      clear hcs hgb hjj hcl
      go_wp2_with fail
      go_region_law (refine step_copy_splice rfl (.tmp 41) (.tmp 44) 25 25 rfl 3 Try.underlying25 hsz1 (some ⟨w.heap.size, k, none⟩) (some ⟨w.heap.size, 0, none⟩) (n - k) (n - k) k n ?_ ?_ w.heap.size k (filled x n k) 3 hG.out cs HMIN.out (fun _ => ⟨rfl, _, rfl, HSRC.out⟩) HFIT.out HO.out w.heap.size w hBd.out (Nat.le_refl _) ?_; (focus go_simp); (focus go_simp); intro w4 hg4 hb4)
      rw [HSP.out] at hg4
      have HG4 : Hid (Blk w4 w.heap.size 3 (filled x n (k + jj)).toArray) := hg4
      have HB4 := Lib.hid hb4
      have hcl8 : (cs.length : Int) ≤ 256 := by rw [HCL.out]; exact hj8
      have HJN := Lib.hid (show k + jj ≤ n ∧ 1 ≤ jj ∧ n ≤ k + gk + 0 from by have := HJ.out; omega)
      clear hg4 hb4 hG hBd HO HSRC HMIN HFIT hL HSP HJ hB
      go_wp2_with fail
      cases gk with
      | zero => omega
      | succ g2 =>
        go_roundg g2
        case measure => omega
        case rel => exact ⟨k + cs.length, by omega, by have := HJN.out; have := HCL.out; omega, by have := HJN.out; have := HCL.out; omega, by first | (rw [HW.out]; go_num) | go_num, by rw [HCL.out]; exact HG4, HB4.out⟩
    · obtain rfl : k = n := by omega
      have HF : Hid ((filled x k k).toArray.toList = cellsI (List.replicate k x)) := by show _ = _; rw [filled_all]
      have HL : Hid ((filled x k k).toArray.size = k) := by show _ = _; simpa using filled_len x k k (Nat.le_refl _)
      have hge : ¬ ((k : Int) < (k : Int)) := by omega
      go_wp2_with fail
      go_ret
      refine ⟨some ⟨w.heap.size, 0, none⟩, k, by simp [go_sem], ⟨by simp [cellsI], .inr ⟨w.heap.size, k, _, by simp, Nat.le_refl _, hgb.out, by simp, by unfold maxLen; omega, by rw [HL.out, Nat.mul_one], ?_⟩⟩, hB⟩
      rw [HF.out, Nat.mul_one]
      exact List.take_of_length_le (by simp [cellsI])
end Go.Proofs.Ytphlpipbhaiijaa.reps
