/- A Graph in the making: the variable that holds it, the row of its edges, the result's variable. -/
import Derived.Test.YtdhbaegkogklgaaDoorProg
import Derived.Test.YtdhbaegkogklgaaDoorK02
import Derived.Laws.EntriesVeiled
import Derived.Handy
import Derived.Test.YtdhbaegkogklgaaDoorK01
import Derived.StillTailTactics
namespace Go.Proofs.YtdhbaegkogklgaaDoor.mids
open Go.RowKit P2 words edges

theorem own_ne {w : World} {B : Nat} {t t' : TypeId} {size n : Nat} {v : Value} {xs : List Value} {O : Nat} {cs : Array Value} (h : w.ownsRow B t size v n xs) (hb : Blk w O t' cs) (ht : t ≠ t') : v.ownBlock ≠ some O := by
  intro e
  rcases h.2 with ⟨rfl, _⟩ | ⟨g, cap, cur, rfl, _, hg, _⟩
  · simp [Value.ownBlock] at e
  · simp [Value.ownBlock] at e
    subst e
    unfold Blk at hb
    rw [hg] at hb
    simp at hb
    exact ht hb.2
theorem grown_blk {w w' : World} {B : Nat} {t t' : TypeId} {size n : Nat} {v : Value} {xs : List Value} {O : Nat} {cs : Array Value} {o : Obj} (h : w.ownsRow B t size v n xs) (hb : Blk w O t' cs) (ht : t ≠ t') (hg : (w.alloc o).grownBy w' v.ownBlock) : Blk w' O t' cs :=
  (hb.alloc o).grown hg (fun e => own_ne h hb ht e.symm)

/-- block O holds the Graph in the making, block R is the result's variable -/
def Mid (w wr : World) (R O : Nat) (n : Int) (l : List Ed) : Prop :=
  ∃ A c, Blk wr O 29 #[.int .i64 n, .slice A l.length c] ∧ wr.ownsRow w.heap.size 111 2 (.slice A l.length c) l.length (cellsE l) ∧
    Blk wr R 29 #[.int .i64 0, .slice none 0 0] ∧ Below w.heap.size w wr ∧ w.heap.size ≤ R ∧ w.heap.size ≤ O ∧ R ≠ O
theorem Mid.call {w wr w1 : World} {R O : Nat} {n : Int} {l : List Ed} (h : Mid w wr R O n l) (hb : Below wr.heap.size wr w1) : Mid w w1 R O n l := by
  obtain ⟨A, c, h1, h2, h3, h4, h5⟩ := h
  exact ⟨A, c, h1.below hb h1.lt, own_below h2 hb, h3.below hb h3.lt, h4.trans (hb.mono h4.size), h5⟩
theorem tne : (111 : TypeId) ≠ 29 := by decide
theorem Mid.push {w w1 w2 : World} {R O m : Nat} {n : Int} {l : List Ed} {a b : Int} {A : Option Addr} {c : Nat} {o : Obj} {v : Value}
    (hO : Blk w1 O 29 #[.int .i64 n, .slice A l.length c]) (hr : w1.ownsRow w.heap.size 111 2 (.slice A l.length c) l.length (cellsE l))
    (hR : Blk w1 R 29 #[.int .i64 0, .slice none 0 0]) (hb : Below w.heap.size w w1) (h5 : w.heap.size ≤ R ∧ w.heap.size ≤ O ∧ R ≠ O)
    (hown : w2.ownsRow w.heap.size 111 2 v (l.length + m) (cellsE l ++ [.int .i64 a, .int .i64 b])) (hm : m = 1) (hg : (w1.alloc o).grownBy w2 (Value.slice A l.length c).ownBlock) :
    ∃ A' c', v = .slice A' (l.length + 1) c' ∧ Mid w (w2.setCell ⟨O, 1, none⟩ (.slice A' (l.length + 1) c')) R O n (l ++ [(a, b)]) ∧ Blk w2 O 29 #[.int .i64 n, .slice A l.length c] := by
  subst hm
  obtain ⟨A', c', rfl⟩ := own_form hown
  have hlen : (l ++ [(a, b)]).length = l.length + 1 := by simp
  have hO2 := grown_blk hr hO tne hg
  have hR2 := grown_blk hr hR tne hg
  have hne := own_ne hown hO2 tne
  refine ⟨A', c', rfl, ⟨A', c', ?_, ?_, hR2.far h5.2.2 _, ?_, h5⟩, hO2⟩
  · rw [hlen]
    have := hO2.set_ 1 (.slice A' (l.length + 1) c')
    simpa using this
  · rw [hlen, cellsE_app]
    refine hown.kept (row := some O) ⟨rfl, rfl, rfl, by simp [World.setCell], fun k _ hk => Below.heap_setCell _ _ _ _ (fun e => hk (by simp [e]))⟩ (.inr hne)
  · exact ((hb.alloc (by have := hb.size; omega) o).grown hg (by have := hb.size; simp; omega) (fun k hk => (hr.lt k hk).1)).setCell h5.2.1 _
/-- other variables stay -/
theorem push_blk {w1 w2 : World} {B O X n : Nat} {t : TypeId} {v : Value} {xs : List Value} {cs : Array Value} {o : Obj} {u : Value} (hr : w1.ownsRow B 111 2 v n xs) (hX : Blk w1 X t cs) (ht : 111 ≠ t)
    (hg : (w1.alloc o).grownBy w2 v.ownBlock) (hne : X ≠ O) : Blk (w2.setCell ⟨O, 1, none⟩ u) X t cs :=
  (grown_blk hr hX ht hg).far hne _
/-- the end: the Graph is stored into the result's variable -/
theorem Mid.done {w wr : World} {R : Nat} {n : Int} {l : List Ed} {A : Option Addr} {c : Nat} (hr : wr.ownsRow w.heap.size 111 2 (.slice A l.length c) l.length (cellsE l))
    (hR : Blk wr R 29 #[.int .i64 0, .slice none 0 0]) (hb : Below w.heap.size w wr) (h5 : w.heap.size ≤ R) :
    ((wr.setCell ⟨R, 0, none⟩ (.int .i64 n)).setCell ⟨R, 1, none⟩ (.slice A l.length c)).ownsRow w.heap.size 111 2 (.slice A l.length c) l.length (cellsE l) ∧
      Below w.heap.size w ((wr.setCell ⟨R, 0, none⟩ (.int .i64 n)).setCell ⟨R, 1, none⟩ (.slice A l.length c)) := by
  have hk : ∀ (W : World) (j : Nat) (u : Value), W.grownBy (W.setCell ⟨R, j, none⟩ u) (some R) := fun W j u => ⟨rfl, rfl, rfl, by simp [World.setCell], fun k _ hk => Below.heap_setCell _ _ _ _ (fun e => hk (by simp [e]))⟩
  have hne := own_ne hr hR tne
  exact ⟨(hr.kept (hk _ _ _) (.inr hne)).kept (hk _ _ _) (.inr hne), (hb.setCell h5 _).setCell h5 _⟩
/-- the start: an empty row, the Graph in the making -/
theorem mid_new {w w1 : World} {R : Nat} (n : Int) (hR : Blk w1 R 29 #[.int .i64 0, .slice none 0 0]) (e1 : Below w.heap.size w w1) (h : w.heap.size ≤ R) :
    Mid w ((w1.alloc (.cells #[] 111)).alloc (.cells #[.int .i64 n, .slice (some ⟨w1.heap.size, 0, none⟩) 0 0] 29)) R (w1.heap.size + 1) n [] := by
  have hs := e1.size
  have hlt := hR.lt
  refine ⟨some ⟨w1.heap.size, 0, none⟩, 0, ?_, ?_, (hR.alloc _).alloc _, ?_, h, by omega, by omega⟩
  · simpa using Blk.new (w1.alloc (.cells #[] 111)) 29 #[.int .i64 n, .slice (some ⟨w1.heap.size, 0, none⟩) 0 0]
  · have := (World.ownsRow_lit (base := w1.heap.size) (e := 111) (size := 2) w1 #[] 0 (Nat.le_refl _) (Nat.zero_le _) (by simp)).alloc (.cells #[.int .i64 n, .slice (some ⟨w1.heap.size, 0, none⟩) 0 0] 29)
    exact own_base this hs
  · exact (e1.alloc hs _).alloc (by simp; omega) _
end Go.Proofs.YtdhbaegkogklgaaDoor.mids

/- The contract of graphWhere: the Graph of the edges that a function value allows. -/
namespace Go.Proofs.YtdhbaegkogklgaaDoor.gws
open Go.RowKit P2 words edges fns

/-- what graphWhere holds of its Graph in the midst: its block, its edges -/
def Mid (w wr : World) (n : Nat) (l : List Ed) : Prop :=
  ∃ A c, Blk wr (w.heap.size + 1) 29 #[.int .i64 (n : Int), .slice A l.length c] ∧ wr.ownsRow (w.heap.size + 2) 111 2 (.slice A l.length c) l.length (cellsE l) ∧
    Blk wr w.heap.size 29 #[.int .i64 0, .slice none 0 0] ∧ Below w.heap.size w wr
theorem Mid.call {w wr w1 : World} {n : Nat} {l : List Ed} (h : Mid w wr n l) (hb : Below wr.heap.size wr w1) : Mid w w1 n l := by
  obtain ⟨A, c, h1, h2, h3, h4⟩ := h
  exact ⟨A, c, h1.below hb h1.lt, own_below h2 hb, h3.below hb h3.lt, h4.trans (hb.mono h4.size)⟩
theorem Mid.push {w w1 w2 : World} {n m : Nat} {l : List Ed} {e : Ed} {A : Option Addr} {c : Nat} {o : Obj} {v : Value}
    (hB1 : Blk w1 (w.heap.size + 1) 29 #[.int .i64 (n : Int), .slice A l.length c]) (hr : w1.ownsRow (w.heap.size + 2) 111 2 (.slice A l.length c) l.length (cellsE l))
    (hR : Blk w1 w.heap.size 29 #[.int .i64 0, .slice none 0 0]) (hb : Below w.heap.size w w1)
    (hown : w2.ownsRow (w.heap.size + 2) 111 2 v (l.length + m) (cellsE (l ++ [e]))) (hm : m = 1) (hg : (w1.alloc o).grownBy w2 (Value.slice A l.length c).ownBlock) :
    ∃ A' c', v = .slice A' (l ++ [e]).length c' ∧ Mid w (w2.setCell ⟨w.heap.size + 1, 1, none⟩ (.slice A' (l ++ [e]).length c')) n (l ++ [e]) ∧ Blk w2 (w.heap.size + 1) 29 #[.int .i64 (n : Int), .slice A l.length c] := by
  subst hm
  obtain ⟨A', c', rfl⟩ := own_form hown
  have hlen : (l ++ [e]).length = l.length + 1 := by simp
  rw [← hlen] at hown ⊢
  have hne : ∀ k, (Value.slice A l.length c).ownBlock = some k → w.heap.size + 2 ≤ k := fun k hk => (hr.lt k hk).1
  have hs1 : w.heap.size + 1 < w1.heap.size := hB1.lt
  have hblk : Blk w2 (w.heap.size + 1) 29 #[.int .i64 (n : Int), .slice A l.length c] := (hB1.alloc o).grown hg (fun hh => by have := hne _ hh.symm; omega)
  have hblk0 : Blk w2 w.heap.size 29 #[.int .i64 0, .slice none 0 0] := (hR.alloc o).grown hg (fun hh => by have := hne _ hh.symm; omega)
  refine ⟨A', c', rfl, ⟨A', c', ?_, ownsRow_setCell_below hown (by simp) _, hblk0.far (by simp) _, ?_⟩, hblk⟩
  · have := hblk.set_ 1 (.slice A' (l ++ [e]).length c')
    simpa using this
  · exact ((hb.alloc (by omega) o).grown hg (by simp; omega) (fun k hk => by have := hne k hk; omega)).setCell (by simp) _

end Go.Proofs.YtdhbaegkogklgaaDoor.gws

/- A variable that holds the function value of the neighbors. -/
namespace Go.Proofs.YtdhbaegkogklgaaDoor.nearv
open Go.RowKit P2 words edges ints good near adjs fns

theorem in64_small {x : Int} (h : -100 ≤ x) (h2 : x ≤ 100) : In64 x := by unfold In64; omega
theorem cell_keep {w w' : World} {b o : Nat} {v : Value} (h : w.cell? ⟨b, o, none⟩ = some v) (hb : Below w.heap.size w w') : w'.cell? ⟨b, o, none⟩ = some v :=
  (hb.cell (p := ⟨b, o, none⟩) (World.block_lt_of_cell? w (a := ⟨b, o, none⟩) h)).trans h
theorem good64 {s : Int} {l : List Ed} (hg : P2.Good s l) : ∀ e ∈ l, In64 e.1 ∧ In64 e.2 := fun e he => by
  have := hg.mem he
  have h8 := hg.2.1
  exact ⟨in64_small (by omega) (by omega), in64_small (by omega) (by omega)⟩
theorem gw_len {n : Nat} (J : Nat → Nat → Bool) (hn : n ≤ 8) : (gw n J).length ≤ 1048576 := by
  have h1 := gwTo_len J n n
  have : n * n ≤ 8 * 8 := Nat.mul_le_mul hn hn
  show (gwTo J n n).length ≤ _
  omega
end Go.Proofs.YtdhbaegkogklgaaDoor.nearv

/- The contracts of the program's sets as bits: bitsOf, has, nodes, closedBits, coversIn, cornersIn; and of slices.Contains. -/
namespace Go.Proofs.YtdhbaegkogklgaaDoor.bitsI
open Go.RowKit P2 words edges ints good adjs fns sets rets covs
set_option linter.unusedVariables false

theorem cell_keep {w w' : World} {b o : Nat} {v : Value} (h : w.cell? ⟨b, o, none⟩ = some v) (hb : Below w.heap.size w w') : w'.cell? ⟨b, o, none⟩ = some v :=
  (hb.cell (p := ⟨b, o, none⟩) (World.block_lt_of_cell? w (a := ⟨b, o, none⟩) h)).trans h
theorem wrap_pow {m : Nat} (hm : m ≤ 8) : IntKind.u64.wrap ((2 : Int) ^ m) = ((2 ^ m : Nat) : Int) := by
  have h : 2 ^ m ≤ 256 := by have := Nat.pow_le_pow_right (show 0 < 2 by decide) hm; simpa using this
  have h2 : ((2 : Int) ^ m) = ((2 ^ m : Nat) : Int) := by simp
  rw [h2]
  generalize 2 ^ m = p at *
  rw [IntKind.wrap_u64]; omega
theorem or_walk (a m : Nat) (ha : a < 256) (hm : m ≤ 8) : bits .or .u64 (a : Int) (IntKind.u64.wrap ((2 : Int) ^ m)) = ((a ||| 2 ^ m : Nat) : Int) := by
  have h : 2 ^ m ≤ 256 := by have := Nat.pow_le_pow_right (show 0 < 2 by decide) hm; simpa using this
  rw [wrap_pow hm, bits_or_u64_nat _ _ (by omega) (by omega)]
theorem has_walk (c k : Nat) (hc : c < 18446744073709551616) : (bits BinOp.and IntKind.u64 ((c : Int) / 2 ^ k) 1 == 1) = c.testBit k := by
  have h1 : ((c : Int) / 2 ^ k) = ((c / 2 ^ k : Nat) : Int) := by simp
  have hlt : c / 2 ^ k < 18446744073709551616 := Nat.lt_of_le_of_lt (Nat.div_le_self _ _) hc
  have h2 := bits_and_u64_nat (c / 2 ^ k) 1 hlt (by decide)
  rw [h1, show (1 : Int) = ((1 : Nat) : Int) from rfl, h2, show 1 = 2 ^ 1 - 1 from rfl, Nat.and_two_pow_sub_one_eq_mod, Nat.testBit_eq_decide_div_mod_eq, Bool.eq_iff_iff, beq_iff_eq, decide_eq_true_iff]
  omega

set_option maxHeartbeats 1000000 in
theorem has_any (c k : Nat) (w : World) (hc : c < 18446744073709551616) (hk : k ≤ 8) :
    Calls Tryd.prog 50 #[.int .u64 (c : Int), .int .i64 (k : Int)] w fun e w' => e = .returned (.bool (c.testBit k)) ∧ w = w' := by
  have HW := Lib.hid (has_walk c k hc)
  go_enter Tryd.func50, Tryd.ntmps50
  go_wp2_with fail
  go_ret
  exact ⟨ret_bool HW.out, rfl⟩

/-- nodesWhere over a method's value -/
theorem nodesWhere_first (n : Nat) (f : FuncId) (r : Value) (p : Nat → Bool) (w : World) (hn : n ≤ 8) (hent : ∀ (args : Array Value) (W : World), (callFunc f args).run Tryd.prog W = .ok (.enter f args) W)
    (hcall : ∀ W, ∀ x : Nat, x < n → Calls Tryd.prog f #[r, .int .i64 (x : Int)] W fun e W' => e = .returned (.bool (p x)) ∧ W = W') :
    Calls Tryd.prog 48 #[.int .i64 (n : Int), .func (.func f) #[r] #[]] w (RowI w (nw p n)) := by
  obtain ⟨i0, hi, hz0, hz1, hz2⟩ := info_parts infoInt
  have HC := Lib.hid hcall
  clear hcall
  go_enter Tryd.func48, Tryd.ntmps48
  go_wp2_with fail
  go_loopw [5, 8] (fun s i wr => ∃ k : Nat, k ≤ n ∧ i = .int .i64 (k : Int) ∧ wr.ownsRow w.heap.size 3 1 s (nw p k).length (cellsI (nw p k)) ∧ Below w.heap.size w wr) (fun _ i _ => n - (intOf i).toNat)
  case atStart => exact ⟨0, Nat.zero_le _, rfl, World.ownsRow_nil _ _ _ _, Below.refl _ _⟩
  case round =>
    obtain ⟨k, hk, rfl, hrow, hB⟩ := hrel
    have hlen := nw_len p k
    by_cases hlt : k < n
    · have hlt' : (k : Int) < (n : Int) := by omega
      have HCk := HC.out
      have HP := Lib.hid (fun (W : World) => HCk W k hlt)
      clear HCk
      have hsz := hB.size
      by_cases hp : p k = true
      · have HN := Lib.hid (nw_yes hp)
        rw [hp] at HP
        clear hp
        generalize nw p k = l at *
        go_wp2_with fail
        refine (HP.out _).mono ?_
        rintro e w1 ⟨rfl, rfl⟩
        go_wp2_with (at_builtin; refine wpList_append_own _ rfl _ _ 25 rfl (w.heap.size) 3 i0 (.int .i64 0) 1 8 Tryd.underlying25 hi hz0 hz1 hz2 rfl (by decide) _ _ _ rfl (hrow.alloc _) ⟨wr.heap.size, 0, none⟩ 1 1 [.int .i64 ((k : Int))] rfl rfl (cell_one_new _ _ _) (fun x hx => by simp at hx; subst hx; rfl) (by unfold maxLen; omega) (by omega) (by simp; omega) ?_; intro v2 w2 hown2 hgrow2 _)
        obtain ⟨hown3, hB2⟩ := push1 hrow hown2 hgrow2 hsz
        clear hgrow2 hrow hown2
        go_roundw
        case rel => exact ⟨k + 1, by omega, by go_num, by rw [HN.out]; exact hown3, hB.trans hB2⟩
        case measure => simp [intOf]; omega
      · have hp' : p k = false := by simpa using hp
        have HN := Lib.hid (nw_no hp')
        rw [hp'] at HP
        clear hp hp'
        go_wp2_with fail
        refine (HP.out _).mono ?_
        rintro e w1 ⟨rfl, rfl⟩
        go_wp2_with fail
        go_roundw
        case rel => exact ⟨k + 1, by omega, by go_num, by rw [HN.out]; exact hrow, hB⟩
        case measure => simp [intOf]; omega
    · obtain rfl : k = n := by omega
      obtain ⟨A, c, rfl⟩ := own_form hrow
      go_wp2_with fail
      go_ret
      exact ⟨A, c, rfl, hrow, hB⟩

theorem nodes_any (c : Nat) (w : World) (hc : c < 18446744073709551616) :
    Calls Tryd.prog 60 #[.int .u64 (c : Int)] w (RowI w (nw (bitB c) 8)) := by
  have hmf : ∀ (fn : Fn) (first cap : Array Value) (w : World), (Instr.makeFunc fn first cap).run Tryd.prog w = .ok (.func fn first cap) w := fun _ _ _ _ => rfl
  have HN := Lib.hid (nodesWhere_first 8 50 (.int .u64 (c : Int)) (bitB c) w (Nat.le_refl _) (fun _ _ => by kernel_rfl) (fun W x hx => has_any c x W hc (by omega)))
  go_enter Tryd.func60, Tryd.ntmps60
  go_wp2_with fail
  refine HN.out.mono ?_
  rintro e w1 ⟨A1, c1, rfl, o1, b1⟩
  go_wp2_with fail
  go_ret
  exact ⟨A1, c1, rfl, o1, b1⟩

set_option maxHeartbeats 1000000 in
theorem bitsOf_any (u : Value) (xs : List Int) (w : World) (hu : Ints w u xs) (hxl : xs.length ≤ 1048576) (hx : ∀ x ∈ xs, 0 ≤ x ∧ x < 8) :
    Calls Tryd.prog 46 #[u] w fun e w' => e = .returned (.int .u64 (codeL xs : Int)) ∧ w = w' := by
  obtain ⟨A2, c2, rfl, hc⟩ := hu.form
  have HC := Lib.hid hc
  have HX := Lib.hid hx
  clear hu hc hx
  go_enter Tryd.func46, Tryd.ntmps46
  go_wp2_with fail
  go_loop [3, 8] (fun s i => ∃ k : Nat, k ≤ xs.length ∧ i = .int .i64 (k : Int) ∧ s = .int .u64 (codeL (xs.take k) : Int)) (fun _ i => xs.length - (intOf i).toNat)
  case atStart => exact ⟨0, Nat.zero_le _, rfl, rfl⟩
  case round =>
    obtain ⟨k, hk, rfl, rfl⟩ := hrel
    by_cases hlt : k < xs.length
    · obtain ⟨x, hx⟩ : ∃ x, xs[k]? = some x := ⟨_, List.getElem?_eq_getElem hlt⟩
      obtain ⟨g, o, rfl, c0⟩ := HC.out k x hx
      have hlt' : (k : Int) < (xs.length : Int) := by omega
      have hx0 := HX.out x (List.mem_of_getElem? hx)
      obtain ⟨m, rfl⟩ : ∃ m : Nat, x = (m : Int) := ⟨x.toNat, by omega⟩
      have hm : m ≤ 8 := by omega
      have HS := Lib.hid (code_succ hx)
      have HT := Lib.hid (or_walk (codeL (xs.take k)) m (code_lt (m := 8) fun y hy => by have := HX.out y (List.mem_of_mem_take hy); omega) hm)
      clear hx
      go_wp2_with fail
      go_round
      case rel => exact ⟨k + 1, by omega, by go_num, by rw [HS.out, HT.out]; rfl⟩
      case measure => simp [intOf]; omega
    · obtain rfl : k = xs.length := by omega
      have HT : Hid (codeL (xs.take xs.length) = codeL xs) := by show _ = _; rw [List.take_length]
      go_wp2_with fail
      go_ret
      exact ⟨ret_int (by first | rfl | rw [HT.out]), rfl⟩

/-- a row of words -/
def cellsU (l : List Nat) : List Value := l.map fun a : Nat => .int .u64 (a : Int)
theorem cellsU_at {l : List Nat} {k x : Nat} (h : l[k]? = some x) : (cellsU l)[k]? = some (.int .u64 (x : Int)) := by simp [cellsU, h]
theorem cellsU_len (l : List Nat) : (cellsU l).length = l.length := by simp [cellsU]
theorem cellsU_set (l : List Nat) (k x : Nat) : (cellsU l).set k (.int .u64 (x : Int)) = cellsU (l.set k x) := by simp [cellsU, List.map_set]
abbrev Nums (w : World) (v : Value) (l : List Nat) : Prop := Reads w 1 v l.length (cellsU l)
theorem Nums.form {w : World} {v : Value} {l : List Nat} (h : Nums w v l) : ∃ A c, v = .slice A l.length c ∧ ∀ (k x : Nat), l[k]? = some x → ∃ g o, A = some ⟨g, o, none⟩ ∧ w.cell? ⟨g, o + k, none⟩ = some (.int .u64 (x : Int)) := by
  obtain ⟨A, c, e, hx⟩ := h
  refine ⟨A, c, e, fun k x hk => ?_⟩
  obtain ⟨g, o, rfl, _, hj⟩ := hx (by have := (List.getElem?_eq_some_iff.1 hk).1; omega)
  exact ⟨g, o, rfl, hj _ _ (cellsU_at hk)⟩
/-- the closed neighborhoods of all nodes -/
def clos (l : List Ed) (n : Nat) : List Nat := (List.range n).map (cloB l)
theorem clos_len (l : List Ed) (n : Nat) : (clos l n).length = n := by simp [clos]
theorem clos_at {l : List Ed} {n k : Nat} (h : k < n) : (clos l n)[k]? = some (cloB l k) := by simp [clos, h]

end Go.Proofs.YtdhbaegkogklgaaDoor.bitsI

/- How many bits a number below 256 has: the contract of bits.OnesCount and of the program's count. -/
namespace Go.Proofs.YtdhbaegkogklgaaDoor.bitsI
open Go.RowKit P2 words edges ints good adjs fns sets rets covs
set_option linter.unusedVariables false

/-- how many bits -/
def onesN (c : Nat) : Nat := (nw (bitB c) 8).length
theorem ones_num (p : Nat → Bool) {n : Nat} (hn : n ≤ 8) : onesN (numOf p n) = (nw p n).length := by unfold onesN; rw [nodes_num hn]
/-- the steps of OnesCount64 -/
def pop1 (x : Int) : Int := IntKind.u64.wrap (bits .and .u64 (x / 2) 6148914691236517205 + bits .and .u64 x 6148914691236517205)
def pop2 (x : Int) : Int := IntKind.u64.wrap (bits .and .u64 (x / 4) 3689348814741910323 + bits .and .u64 x 3689348814741910323)
def pop3 (x : Int) : Int := bits .and .u64 (IntKind.u64.wrap (x / 16 + x)) 1085102592571150095
def pop4 (k : Int) (x : Int) : Int := IntKind.u64.wrap (x + x / k)
def pop5 (x : Int) : Int := bits .and .i64 (wrap64 x) 127
theorem pop_is : ∀ c : Fin 256, pop5 (pop4 4294967296 (pop4 65536 (pop4 256 (pop3 (pop2 (pop1 (c.1 : Int))))))) = (onesN c.1 : Int) := by decide +kernel
set_option maxHeartbeats 1000000 in
set_option maxRecDepth 100000 in
theorem ones64_any (c : Nat) (w : World) (hc : c < 256) :
    Calls Tryd.prog 153 #[.int .u64 (c : Int)] w fun e w' => e = .returned (.int .i64 (onesN c : Int)) ∧ w = w' := by
  go_enter Tryd.func153, Tryd.ntmps153
  go_wp2_with fail
  go_ret
  exact ⟨ret_int (pop_is ⟨c, hc⟩), rfl⟩
theorem ones_any (c : Nat) (w : World) (hc : c < 256) :
    Calls Tryd.prog 143 #[.int .u64 (c : Int)] w fun e w' => e = .returned (.int .i64 (onesN c : Int)) ∧ w = w' := by
  have HO := Lib.hid (ones64_any c w hc)
  go_enter Tryd.func143, Tryd.ntmps143
  go_wp2_with fail
  refine HO.out.mono ?_
  rintro e w' ⟨rfl, rfl⟩
  go_wp2_with fail
  go_ret
  exact ⟨rfl, rfl⟩
theorem count_any (c : Nat) (w : World) (hc : c < 256) :
    Calls Tryd.prog 120 #[.int .u64 (c : Int)] w fun e w' => e = .returned (.int .i64 (onesN c : Int)) ∧ w = w' := by
  have HO := Lib.hid (ones_any c w hc)
  go_enter Tryd.func120, Tryd.ntmps120
  go_wp2_with fail
  refine HO.out.mono ?_
  rintro e w' ⟨rfl, rfl⟩
  go_wp2_with fail
  go_ret
  exact ⟨rfl, rfl⟩
end Go.Proofs.YtdhbaegkogklgaaDoor.bitsI

/- All sets of at most so many nodes, by their numbers of nodes and then lexicographically; the best one of the sets for which a test holds: mathematics. -/
namespace Go.Proofs.YtdhbaegkogklgaaDoor.ups
open Go.RowKit P2 words edges ints good adjs fns sets rets covs bitsI
set_option linter.unusedVariables false

/-- how many digits -/
def lenN (c : Nat) : Nat := if c = 0 then 0 else Nat.log2 c + 1
/-- a set with one node more, greater than all of its own -/
def growN (n c : Nat) : List Nat := ((List.range n).filter (fun x => decide (lenN c ≤ x))).map (fun x => c ||| 2 ^ x)
def bfsN (n m : Nat) : Nat → List Nat → List Nat
  | 0, r => r
  | _ + 1, [] => []
  | f + 1, c :: r => if onesN c < m then c :: bfsN n m f (r ++ growN n c) else c :: r
def setsN (n m : Nat) : List Nat := bfsN n m 300 [0]
def revT (c : Nat) : Nat → Nat
  | 0 => 0
  | j + 1 => (if bitB c (7 - j) = true then 2 ^ j else 0) + revT c j
def nodT (c : Nat) : Nat → List Int
  | 0 => []
  | j + 1 => if bitB c (7 - j) = true then ((7 - j : Nat) : Int) :: nodT c j else nodT c j
def revN (c : Nat) : Nat := revT c 8
/-- greater for what is better: fewer nodes, then lexicographically less; and more nodes, then lexicographically less -/
def rkMin (c : Nat) : Nat := (8 - onesN c) * 256 + revN c
def rkMax (c : Nat) : Nat := onesN c * 256 + revN c
def downB : List Nat → Bool
  | a :: b :: r => decide (rkMin b < rkMin a) && downB (b :: r)
  | _ => true
def maskL (L : List Nat) : Nat := L.foldl (fun a c => a ||| 2 ^ c) 0
def okS (n m : Nat) (L : List Nat) : Bool := L.all (fun c => decide (c < 2 ^ n) && decide (onesN c ≤ m)) && (maskL L == maskL ((List.range (2 ^ n)).filter fun c => decide (onesN c ≤ m))) && downB L && decide (L.length ≤ 256) && decide (L[0]? = some 0)
theorem sets_all : ∀ n : Fin 9, ∀ m : Fin 9, okS n.1 m.1 (setsN n.1 m.1) = true := by decide +kernel
theorem mask_fold (k : Nat) : ∀ (L : List Nat) (a : Nat), (L.foldl (fun a c => a ||| 2 ^ c) a).testBit k = (a.testBit k || decide (k ∈ L))
  | [], a => by simp
  | c :: L, a => by
    rw [List.foldl_cons, mask_fold k L, Nat.testBit_or, Nat.testBit_two_pow, Bool.or_assoc]
    congr 1
    rw [Bool.eq_iff_iff]
    simp only [Bool.or_eq_true, decide_eq_true_eq, List.mem_cons]
    constructor
    · rintro (h | h)
      · exact .inl h.symm
      · exact .inr h
    · rintro (h | h)
      · exact .inl h.symm
      · exact .inr h
theorem mask_bit (L : List Nat) (k : Nat) : (maskL L).testBit k = decide (k ∈ L) := by unfold maskL; rw [mask_fold]; simp
theorem sets_ok {n m : Nat} (hn : n ≤ 8) (hm : m ≤ 8) : okS n m (setsN n m) = true := sets_all ⟨n, by omega⟩ ⟨m, by omega⟩
theorem sets_parts {n m : Nat} (hn : n ≤ 8) (hm : m ≤ 8) :
    (∀ c ∈ setsN n m, c < 2 ^ n ∧ onesN c ≤ m) ∧ maskL (setsN n m) = maskL ((List.range (2 ^ n)).filter fun c => decide (onesN c ≤ m)) ∧ downB (setsN n m) = true ∧ (setsN n m).length ≤ 256 ∧ (setsN n m)[0]? = some 0 := by
  have h := sets_ok hn hm
  unfold okS at h
  simp only [Bool.and_eq_true, decide_eq_true_eq, beq_iff_eq, List.all_eq_true] at h
  exact ⟨h.1.1.1.1, h.1.1.1.2, h.1.1.2, h.1.2, h.2⟩
theorem mem_sets {n m c : Nat} (hn : n ≤ 8) (hm : m ≤ 8) : c ∈ setsN n m ↔ c < 2 ^ n ∧ onesN c ≤ m := by
  have h := mask_bit (setsN n m) c
  rw [(sets_parts hn hm).2.1, mask_bit, decide_eq_decide] at h
  rw [← h, List.mem_filter, List.mem_range, decide_eq_true_iff]
theorem sets_len {n m : Nat} (hn : n ≤ 8) (hm : m ≤ 8) : (setsN n m).length ≤ 256 := (sets_parts hn hm).2.2.2.1
theorem sets_first {n m : Nat} (hn : n ≤ 8) (hm : m ≤ 8) : (setsN n m)[0]? = some 0 := (sets_parts hn hm).2.2.2.2
theorem down_pair : ∀ {L : List Nat}, downB L = true → L.Pairwise (fun a b => rkMin b < rkMin a)
  | [], _ => List.Pairwise.nil
  | [a], _ => by simp
  | a :: b :: r, h => by
    unfold downB at h
    rw [Bool.and_eq_true, decide_eq_true_iff] at h
    have ih := down_pair h.2
    refine List.pairwise_cons.2 ⟨fun x hx => ?_, ih⟩
    rcases List.mem_cons.1 hx with e | hx
    · subst e; exact h.1
    · have := (List.pairwise_cons.1 ih).1 x hx; omega
theorem sets_down {n m : Nat} (hn : n ≤ 8) (hm : m ≤ 8) {i j a b : Nat} (hij : i < j) (ha : (setsN n m)[i]? = some a) (hb : (setsN n m)[j]? = some b) : rkMin b < rkMin a := by
  have h := List.pairwise_iff_getElem.1 (down_pair (sets_parts hn hm).2.2.1)
  obtain ⟨h1, h2⟩ := List.getElem?_eq_some_iff.1 ha
  obtain ⟨h3, h4⟩ := List.getElem?_eq_some_iff.1 hb
  have := h i j h1 h3 hij
  rwa [h2, h4] at this
theorem grow_len (n c : Nat) : (growN n c).length ≤ n := by
  unfold growN
  rw [List.length_map]
  exact Nat.le_trans (List.length_filter_le _ _) (by simp)
/-- the numbers from a on -/
theorem fil_succ (n a x : Nat) (h : a ≤ x) : (List.range (x + 1)).filter (fun y => decide (a ≤ y)) = (List.range x).filter (fun y => decide (a ≤ y)) ++ [x] := by
  rw [List.range_succ, List.filter_append]
  simp [h]
/-- the ones up to x -/
def growT (c x : Nat) : List Nat := ((List.range x).filter (fun y => decide (lenN c ≤ y))).map (fun y => c ||| 2 ^ y)
theorem growT_zero (c : Nat) {x : Nat} (h : x ≤ lenN c) : growT c x = [] := by
  unfold growT
  rw [List.map_eq_nil_iff, List.filter_eq_nil_iff]
  intro y hy
  have := List.mem_range.1 hy
  simp; omega
theorem growT_succ {c x : Nat} (h : lenN c ≤ x) : growT c (x + 1) = growT c x ++ [c ||| 2 ^ x] := by
  unfold growT
  rw [fil_succ x _ x h, List.map_append]
  rfl
theorem growT_len (c x : Nat) : (growT c x).length ≤ x := grow_len x c
theorem len_le : ∀ c : Fin 256, lenN c.1 ≤ 8 := by decide +kernel
theorem ones_le (c : Nat) : onesN c ≤ 8 := nw_len _ _
theorem ones_zero : ∀ c : Fin 256, onesN c.1 = 0 → c.1 = 0 := by decide +kernel
/-- one step of the walk: what is behind i -/
theorem bfs_step {n m f i c : Nat} {L F : List Nat} (h : L[i]? = some c) (ho : onesN c < m) (he : L.take i ++ bfsN n m (f + 1) (L.drop i) = F) : (L ++ growN n c).take (i + 1) ++ bfsN n m f ((L ++ growN n c).drop (i + 1)) = F := by
  obtain ⟨h1, h2⟩ := List.getElem?_eq_some_iff.1 h
  rw [List.drop_eq_getElem_cons h1, h2] at he
  unfold bfsN at he
  rw [if_pos ho] at he
  rw [List.take_append_of_le_length (by omega), List.drop_append_of_le_length (by omega), List.take_add_one, h]
  simpa using he
theorem bfs_full {n m f i c : Nat} {L F : List Nat} (h : L[i]? = some c) (ho : ¬ onesN c < m) (he : L.take i ++ bfsN n m (f + 1) (L.drop i) = F) : L = F := by
  obtain ⟨h1, h2⟩ := List.getElem?_eq_some_iff.1 h
  have hd := List.drop_eq_getElem_cons h1
  rw [h2] at hd
  rw [hd] at he
  unfold bfsN at he
  rw [if_neg ho, ← hd, List.take_append_drop] at he
  exact he
theorem bfs_end {n m f i : Nat} {L F : List Nat} (h : L.length ≤ i) (he : L.take i ++ bfsN n m f (L.drop i) = F) : L = F := by
  rw [List.take_of_length_le h, List.drop_eq_nil_of_le h] at he
  have : bfsN n m f [] = [] := by cases f <;> rfl
  rw [this, List.append_nil] at he
  exact he
theorem bfs_pre {n m : Nat} : ∀ (f : Nat) (r : List Nat), r.length ≤ (bfsN n m f r).length
  | 0, r => Nat.le_refl _
  | f + 1, [] => Nat.le_refl _
  | f + 1, c :: r => by
    unfold bfsN
    split
    · have := bfs_pre (n := n) (m := m) f (r ++ growN n c)
      rw [List.length_append] at this
      rw [List.length_cons, List.length_cons]; omega
    · exact Nat.le_refl _
theorem bfs_len {n m f i : Nat} {L F : List Nat} (he : L.take i ++ bfsN n m f (L.drop i) = F) : L.length ≤ F.length := by
  have h := bfs_pre (n := n) (m := m) f (L.drop i)
  rw [← he, List.length_append]
  have h2 : (L.take i).length + (L.drop i).length = L.length := by rw [← List.length_append, List.take_append_drop]
  omega

/-- lists compared element by element -/
def lexI : List Int → List Int → Bool
  | x :: a, y :: b => if x = y then lexI a b else decide (x < y)
  | _, _ => false
theorem revT_lt (c : Nat) : ∀ j, revT c j < 2 ^ j
  | 0 => by show 0 < 1; omega
  | j + 1 => by
    have := revT_lt c j
    unfold revT
    rw [Nat.pow_succ]
    split <;> omega
theorem nodT_ge (c : Nat) : ∀ j, j ≤ 8 → ∀ x ∈ nodT c j, ((8 - j : Nat) : Int) ≤ x
  | 0, _, x, hx => by simp [nodT] at hx
  | j + 1, hj, x, hx => by
    unfold nodT at hx
    split at hx
    · rcases List.mem_cons.1 hx with e | hx
      · omega
      · have := nodT_ge c j (by omega) x hx; omega
    · have := nodT_ge c j (by omega) x hx; omega
theorem lex_revT (a b : Nat) : ∀ j, j ≤ 8 → (nodT a j).length = (nodT b j).length → lexI (nodT a j) (nodT b j) = decide (revT b j < revT a j)
  | 0, _, _ => by simp [nodT, lexI, revT]
  | j + 1, hj, hl => by
    have ra := revT_lt a j
    have rb := revT_lt b j
    unfold nodT at hl ⊢
    unfold revT
    by_cases ha : bitB a (7 - j) = true
    · by_cases hb : bitB b (7 - j) = true
      · rw [if_pos ha, if_pos hb] at hl ⊢
        rw [if_pos ha, if_pos hb]
        rw [List.length_cons, List.length_cons] at hl
        show (if _ then _ else _) = _
        rw [if_pos rfl, lex_revT a b j (by omega) (by omega), decide_eq_decide]
        omega
      · rw [if_pos ha, if_neg hb] at hl ⊢
        rw [if_pos ha, if_neg hb]
        rw [List.length_cons] at hl
        cases hn : nodT b j with
        | nil => rw [hn] at hl; simp at hl
        | cons y r =>
          have hy := nodT_ge b j (by omega) y (by rw [hn]; simp)
          show (if _ then _ else _) = _
          rw [if_neg (by omega), decide_eq_decide]
          omega
    · by_cases hb : bitB b (7 - j) = true
      · rw [if_neg ha, if_pos hb] at hl ⊢
        rw [if_neg ha, if_pos hb]
        rw [List.length_cons] at hl
        cases hn : nodT a j with
        | nil => rw [hn] at hl; simp at hl
        | cons y r =>
          have hy := nodT_ge a j (by omega) y (by rw [hn]; simp)
          show (if _ then _ else _) = _
          rw [if_neg (by omega), decide_eq_decide]
          omega
      · rw [if_neg ha, if_neg hb] at hl ⊢
        rw [if_neg ha, if_neg hb, lex_revT a b j (by omega) hl, decide_eq_decide]
        omega
theorem nod_all : ∀ c : Fin 256, nw (bitB c.1) 8 = nodT c.1 8 := by decide +kernel
theorem rev_rev : ∀ c : Fin 256, revN (revN c.1) = c.1 := by decide +kernel
theorem rev_lt (c : Nat) : revN c < 256 := revT_lt c 8
/-- the nodes of a set -/
def ndN (c : Nat) : List Int := nw (bitB c) 8
theorem nd_len (c : Nat) : (ndN c).length = onesN c := rfl
theorem nd_lex {a b : Nat} (ha : a < 256) (hb : b < 256) (h : onesN a = onesN b) : lexI (ndN a) (ndN b) = decide (revN b < revN a) := by
  have h1 := nod_all ⟨a, ha⟩
  have h2 := nod_all ⟨b, hb⟩
  unfold onesN at h
  unfold ndN
  simp only at h1 h2
  rw [h1, h2] at h ⊢
  exact lex_revT a b 8 (by omega) h
theorem nd_bits {n c : Nat} (hn : n ≤ 8) (hc : c < 2 ^ n) : nw (bitB c) n = ndN c := by
  unfold ndN
  refine (nw_more hn fun k h1 _ => ?_).symm
  unfold bitB
  exact Nat.testBit_lt_two_pow (Nat.lt_of_lt_of_le hc (Nat.pow_le_pow_right (by decide) h1))
theorem pow_le {n : Nat} (hn : n ≤ 8) : 2 ^ n ≤ 256 := by have := Nat.pow_le_pow_right (show 0 < 2 by decide) hn; simpa using this
/-- what the model asks: is one set better than another one -/
theorem better_max {a b : Nat} (ha : a < 256) (hb : b < 256) : (decide (onesN b < onesN a) || (decide (onesN a = onesN b) && lexI (ndN a) (ndN b))) = decide (rkMax b < rkMax a) := by
  have h1 := rev_lt a
  have h2 := rev_lt b
  by_cases h : onesN a = onesN b
  · rw [nd_lex ha hb h, decide_eq_true h, Bool.true_and]
    unfold rkMax
    rw [h]
    simp
  · rw [decide_eq_false h, Bool.false_and, Bool.or_false, decide_eq_decide]
    unfold rkMax
    omega
theorem better_min {a b : Nat} (ha : a < 256) (hb : b < 256) : (decide (onesN a < onesN b) || (decide (onesN a = onesN b) && lexI (ndN a) (ndN b))) = decide (rkMin b < rkMin a) := by
  have h1 := rev_lt a
  have h2 := rev_lt b
  have h3 := ones_le a
  have h4 := ones_le b
  by_cases h : onesN a = onesN b
  · rw [nd_lex ha hb h, decide_eq_true h, Bool.true_and]
    unfold rkMin
    rw [h]
    simp
  · rw [decide_eq_false h, Bool.false_and, Bool.or_false, decide_eq_decide]
    unfold rkMin
    omega
theorem rkMax_inj {a b : Nat} (ha : a < 256) (hb : b < 256) (h : rkMax a = rkMax b) : a = b := by
  have h1 := rev_lt a
  have h2 := rev_lt b
  unfold rkMax at h
  have e : revN a = revN b := by omega
  have e1 := rev_rev ⟨a, ha⟩
  have e2 := rev_rev ⟨b, hb⟩
  simp only at e1 e2
  rw [← e1, ← e2, e]
theorem rkMin_inj {a b : Nat} (ha : a < 256) (hb : b < 256) (h : rkMin a = rkMin b) : a = b := by
  have h1 := rev_lt a
  have h2 := rev_lt b
  unfold rkMin at h
  have e : revN a = revN b := by omega
  have e1 := rev_rev ⟨a, ha⟩
  have e2 := rev_rev ⟨b, hb⟩
  simp only at e1 e2
  rw [← e1, ← e2, e]

theorem rk_step {u1 u2 u3 u4 u5 u6 : Nat} (h1 : u1 * 256 + u4 ≤ u2 * 256 + u5) (h2 : u5 < 256) (ho : u2 < u3) : u1 * 256 + u4 ≤ u3 * 256 + u6 := by
  have h3 := Nat.mul_le_mul_right 256 (Nat.succ_le_of_lt ho)
  rw [Nat.succ_mul] at h3
  exact Nat.le_trans h1 (Nat.le_trans (Nat.add_le_add_left (Nat.le_of_lt h2) _) (Nat.le_trans h3 (Nat.le_add_right _ _)))
/-- the best one of the first k sets of the list -/
def MaxTo (P : Nat → Bool) (L : List Nat) (k b : Nat) : Prop := (b = 0 ∨ b ∈ L.take k) ∧ P b = true ∧ ∀ c ∈ L.take k, P c = true → rkMax c ≤ rkMax b
theorem max_start {P : Nat → Bool} (L : List Nat) (h : P 0 = true) : MaxTo P L 0 0 := ⟨.inl rfl, h, fun c hc => by simp at hc⟩
theorem mem_take {L : List Nat} {k c x : Nat} (h : L[k]? = some c) : x ∈ L.take (k + 1) ↔ x ∈ L.take k ∨ x = c := by
  rw [List.take_add_one, h]; simp
theorem max_skip {P : Nat → Bool} {L : List Nat} {k b c : Nat} (h : MaxTo P L k b) (hc : L[k]? = some c) (hp : P c = false) : MaxTo P L (k + 1) b :=
  ⟨h.1.imp id fun m => (mem_take hc).2 (.inl m), h.2.1, fun x hx hpx => ((mem_take hc).1 hx).elim (fun m => h.2.2 x m hpx) fun e => by subst e; rw [hp] at hpx; cases hpx⟩
theorem max_take {P : Nat → Bool} {L : List Nat} {k b c : Nat} (h : MaxTo P L k b) (hc : L[k]? = some c) (hp : P c = true) (ho : onesN b < onesN c) : MaxTo P L (k + 1) c :=
  ⟨.inr ((mem_take hc).2 (.inr rfl)), hp, fun x hx hpx => ((mem_take hc).1 hx).elim (fun m => by
    have h1 := h.2.2 x m hpx
    have h2 := rev_lt b
    unfold rkMax at h1 ⊢
    exact rk_step h1 h2 ho) fun e => by subst e; exact Nat.le_refl _⟩
theorem max_less {P : Nat → Bool} {n m k b c : Nat} (hn : n ≤ 8) (hm : m ≤ 8) (h : MaxTo P (setsN n m) k b) (hc : (setsN n m)[k]? = some c) (ho : ¬ onesN b < onesN c) : MaxTo P (setsN n m) (k + 1) b :=
  ⟨h.1.imp id fun m => (mem_take hc).2 (.inl m), h.2.1, fun x hx hpx => ((mem_take hc).1 hx).elim (fun m => h.2.2 x m hpx) fun e => by
    subst e
    rcases h.1 with e | hb
    · subst e
      have hz : onesN 0 = 0 := by decide
      have hx8 := ((mem_sets hn hm).1 (List.mem_of_getElem? hc)).1
      have := ones_zero ⟨x, Nat.lt_of_lt_of_le hx8 (pow_le hn)⟩ (by show onesN x = 0; omega)
      simp only at this
      rw [this]; exact Nat.le_refl _
    · obtain ⟨i, hi⟩ := List.getElem?_of_mem hb
      have hik : i < k := by
        have := (List.getElem?_eq_some_iff.1 hi).1
        rw [List.length_take] at this; omega
      rw [List.getElem?_take_of_lt hik] at hi
      have hd := sets_down hn hm hik hi hc
      have h1 := ones_le b
      have h2 := ones_le x
      have h3 := rev_lt b
      have h4 := rev_lt x
      unfold rkMin at hd
      unfold rkMax
      omega⟩
/-- the best one of the sets with numbers less than k -/
def MaxC (P : Nat → Bool) (R : Nat → Nat) (n k b : Nat) : Prop := b < 2 ^ n ∧ P b = true ∧ ∀ c, c < k → P c = true → R c ≤ R b
theorem maxC_skip {P : Nat → Bool} {R : Nat → Nat} {n k b : Nat} (h : MaxC P R n k b) (hp : P k = false) : MaxC P R n (k + 1) b :=
  ⟨h.1, h.2.1, fun c hc hpc => by
    by_cases e : c = k
    · subst e; rw [hp] at hpc; cases hpc
    · exact h.2.2 c (by omega) hpc⟩
theorem maxC_less {P : Nat → Bool} {R : Nat → Nat} {n k b : Nat} (h : MaxC P R n k b) (hp : ¬ R b < R k) : MaxC P R n (k + 1) b :=
  ⟨h.1, h.2.1, fun c hc hpc => by
    by_cases e : c = k
    · subst e; omega
    · exact h.2.2 c (by omega) hpc⟩
theorem maxC_take {P : Nat → Bool} {R : Nat → Nat} {n k b : Nat} (h : MaxC P R n k b) (hk : k < 2 ^ n) (hp : P k = true) (hr : R b < R k) : MaxC P R n (k + 1) k :=
  ⟨hk, hp, fun c hc hpc => by
    by_cases e : c = k
    · subst e; exact Nat.le_refl _
    · have := h.2.2 c (by omega) hpc; omega⟩
/-- both are the same -/
theorem max_same {P : Nat → Bool} {n b d : Nat} (hn : n ≤ 8) (h : MaxTo P (setsN n n) (setsN n n).length b) (hd : MaxC P rkMax n (2 ^ n) d) : b = d := by
  have hall : ∀ c, c < 2 ^ n → c ∈ setsN n n := fun c hc => (mem_sets hn hn).2 ⟨hc, by
    have := nd_len c
    rw [← nd_bits hn hc] at this
    rw [← this]; exact nw_len _ _⟩
  have hp := pow_le hn
  have hb : b < 2 ^ n := by
    rcases h.1 with e | m
    · subst e; exact Nat.pow_pos (by decide)
    · exact ((mem_sets hn hn).1 (List.mem_of_mem_take m)).1
  have h1 := h.2.2 d (by rw [List.take_length]; exact hall d hd.1) hd.2.1
  have h2 := hd.2.2 b hb h.2.1
  exact rkMax_inj (by omega) (by have := hd.1; omega) (by omega)
/-- the first one in the list for which a test holds -/
theorem min_same {P : Nat → Bool} {n i b d : Nat} (hn : n ≤ 8) (hi : (setsN n n)[i]? = some b) (hp : P b = true) (hf : ∀ j c, j < i → (setsN n n)[j]? = some c → P c = false) (hd : MaxC P rkMin n (2 ^ n) d) : b = d := by
  have hpw := pow_le hn
  have hb := ((mem_sets hn hn).1 (List.mem_of_getElem? hi)).1
  have hdm : d ∈ setsN n n := (mem_sets hn hn).2 ⟨hd.1, by
    have := nd_len d
    rw [← nd_bits hn hd.1] at this
    rw [← this]; exact nw_len _ _⟩
  obtain ⟨j, hj⟩ := List.getElem?_of_mem hdm
  have h2 := hd.2.2 b hb hp
  by_cases e : j < i
  · have := hf j d e hj
    rw [hd.2.1] at this; cases this
  · by_cases e2 : i = j
    · subst e2; rw [hi] at hj; exact Option.some.inj hj
    · have := sets_down hn hn (show i < j by omega) hi hj
      omega
end Go.Proofs.YtdhbaegkogklgaaDoor.ups
