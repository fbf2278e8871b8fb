/- A variable that holds the function value of the neighbors. -/
import Derived.Test.YtpeobnmfndelhaaK03
import Derived.Test.YtpeobnmfndelhaaK02
import Derived.Laws.EntriesVeiled
import Derived.Handy
import Derived.Laws.BitsLemmas
import Derived.Deep.RegionHeld3
import Derived.Test.YtpeobnmfndelhaaK01
import Derived.Deep.RegionLaw
import Derived.Deep.DeepCutAuto
import Derived.Maps.AppendAt
namespace Go.Proofs.Ytpeobnmfndelhaa.nearv
open Go.RowKit P2 words edges ints good near adjs fns

theorem in64_small {x : Int} (h : -100 ≤ x) (h2 : x ≤ 100) : In64 x := by unfold In64; omega
theorem cell_keep {w w' : World} {b o : Nat} {v : Value} (h : w.cell? ⟨b, o, none⟩ = some v) (hb : Below w.heap.size w w') : w'.cell? ⟨b, o, none⟩ = some v :=
  (hb.cell (p := ⟨b, o, none⟩) (World.block_lt_of_cell? w (a := ⟨b, o, none⟩) h)).trans h
theorem good64 {s : Int} {l : List Ed} (hg : P2.Good s l) : ∀ e ∈ l, In64 e.1 ∧ In64 e.2 := fun e he => by
  have := hg.mem he
  have h8 := hg.2.1
  exact ⟨in64_small (by omega) (by omega), in64_small (by omega) (by omega)⟩
theorem gw_len {n : Nat} (J : Nat → Nat → Bool) (hn : n ≤ 8) : (gw n J).length ≤ 1048576 := by
  have h1 := gwTo_len J n n
  have : n * n ≤ 8 * 8 := Nat.mul_le_mul hn hn
  show (gwTo J n n).length ≤ _
  omega
end Go.Proofs.Ytpeobnmfndelhaa.nearv

/- Sets of nodes: lists in ascending order, and the contracts of hasSet, l1Rising, l2Set, l2Bits, l2All, l2Without. -/
namespace Go.Proofs.Ytpeobnmfndelhaa.sets
open Go.RowKit P2 words edges ints good adjs fns rets
set_option linter.unusedVariables false

/-- a new list of numbers is returned -/
def RowI (w : World) (l : List Int) (e : Ending) (w' : World) : Prop :=
  ∃ A c, e = .returned (.slice A l.length c) ∧ w'.ownsRow w.heap.size 3 1 (.slice A l.length c) l.length (cellsI l) ∧ Below w.heap.size w w'
theorem RowI.below {w w' : World} {l : List Int} {e : Ending} (h : RowI w l e w') : Below w.heap.size w w' := by
  obtain ⟨A, c, _, _, h⟩ := h; exact h
/-- a cell that a callee keeps, said anew behind it -/
theorem keepb {P : Program} {f : FuncId} {args : Array Value} {W : World} {R : Ending → World → Prop} {p : Addr} {a : Value}
    (h : Calls P f args W R) (hb : ∀ e w', R e w' → Below W.heap.size W w') (hp : W.cell? p = some a) : Calls P f args W fun e w' => R e w' ∧ w'.cell? p = some a :=
  h.mono fun e w' hr => ⟨hr, ((hb e w' hr).cell (World.block_lt_of_cell? W _ hp)).trans hp⟩
theorem keepb2 {P : Program} {f : FuncId} {args : Array Value} {W : World} {R : Ending → World → Prop} {p q : Addr} {a b : Value}
    (h : Calls P f args W R) (hb : ∀ e w', R e w' → Below W.heap.size W w') (hp : W.cell? p = some a) (hq : W.cell? q = some b) : Calls P f args W fun e w' => R e w' ∧ w'.cell? p = some a ∧ w'.cell? q = some b :=
  h.mono fun e w' hr => ⟨hr, ((hb e w' hr).cell (World.block_lt_of_cell? W _ hp)).trans hp, ((hb e w' hr).cell (World.block_lt_of_cell? W _ hq)).trans hq⟩

/-- ascending -/
def Asc (l : List Int) : Prop := l.Pairwise (· < ·)
def AscTo (l : List Int) (k : Nat) : Prop := ∀ j x y, j + 1 < k → l[j]? = some x → l[j + 1]? = some y → x < y
theorem AscTo.start (l : List Int) (k : Nat) (h : k ≤ 1) : AscTo l k := fun j _ _ hj => by omega
theorem AscTo.succ {l : List Int} {k : Nat} (h : AscTo l (k + 1)) (hk : ∀ x y, l[k]? = some x → l[k + 1]? = some y → x < y) : AscTo l (k + 1 + 1) := fun j x y hj hx hy => by
  by_cases e : j = k
  · subst e; exact hk x y hx hy
  · exact h j x y (by omega) hx hy
theorem AscTo.pair {l : List Int} (h : AscTo l l.length) : ∀ (i j : Nat) (a b : Int), i < j → l[i]? = some a → l[j]? = some b → a < b := by
  intro i j a b hij ha hb
  induction j generalizing b with
  | zero => omega
  | succ j ih =>
    have hj : j + 1 < l.length := (List.getElem?_eq_some_iff.1 hb).1
    obtain ⟨d, hd⟩ : ∃ d, l[j]? = some d := ⟨_, List.getElem?_eq_getElem (by omega)⟩
    have h1 := h j d b hj hd hb
    by_cases e : i = j
    · subst e; rw [ha] at hd; cases hd; exact h1
    · have := ih d (by omega) hd; omega
theorem AscTo.asc {l : List Int} (h : AscTo l l.length) : Asc l := by
  unfold Asc
  rw [List.pairwise_iff_getElem]
  intro i j hi hj hij
  exact h.pair i j _ _ hij (List.getElem?_eq_getElem hi) (List.getElem?_eq_getElem hj)
theorem Asc.at_ {l : List Int} (h : Asc l) {i j : Nat} {a b : Int} (hij : i < j) (ha : l[i]? = some a) (hb : l[j]? = some b) : a < b := by
  unfold Asc at h
  rw [List.pairwise_iff_getElem] at h
  have ha' := List.getElem?_eq_some_iff.1 ha
  have hb' := List.getElem?_eq_some_iff.1 hb
  have := h i j ha'.1 hb'.1 hij
  rw [ha'.2, hb'.2] at this
  exact this
theorem Asc.to {l : List Int} (h : Asc l) (k : Nat) : AscTo l k := fun j x y _ hx hy => h.at_ (Nat.lt_succ_self j) hx hy
theorem not_asc {l : List Int} {k : Nat} {x y : Int} (hx : l[k]? = some x) (hy : l[k + 1]? = some y) (h : y ≤ x) : ¬ Asc l := fun ha => by
  have := ha.at_ (Nat.lt_succ_self k) hx hy; omega

/-- a valid Graph and a set of its nodes -/
def SetOk (s : Int) (l : List Ed) (xs : List Int) : Prop := P2.Good s l ∧ (∀ x ∈ xs, 0 ≤ x ∧ x < s) ∧ Asc xs
def RisesIn (xs : List Int) (lo hi : Int) : Prop := (∀ x ∈ xs, lo ≤ x ∧ x ≤ hi) ∧ Asc xs
theorem asc_len {xs : List Int} : ∀ {n : Nat}, Asc xs → (∀ x ∈ xs, 0 ≤ x ∧ x < (n : Int)) → xs.length ≤ n := fun {n} h hx => by
  have hnd : (xs.map Int.toNat).Nodup := by
    rw [List.Nodup, List.pairwise_map]
    refine h.imp_of_mem ?_
    intro a b ha hb hab
    have := hx a ha; have := hx b hb; omega
  have hsub : xs.map Int.toNat ⊆ List.range n := by
    intro a ha
    obtain ⟨j, hj, rfl⟩ := List.mem_map.1 ha
    have := hx j hj
    exact List.mem_range.2 (by omega)
  have := hnd.length_le_of_subset hsub
  simpa using this

set_option maxHeartbeats 1000000 in
theorem hasSet_any (s : Int) (v u : Value) (l : List Ed) (xs : List Int) (w : World) (h : Edges w v l) (hl : l.length ≤ 1048576) (hu : Ints w u xs) (hxl : xs.length ≤ 1048576) :
    Calls Try.prog 84 #[.agg #[.int .i64 s, v], u] w fun e w' => e = .returned (.bool (okG (SetOk s l xs))) ∧ Below w.heap.size w w' := by
  have e_w := Below.refl w.heap.size w
  have H := Lib.hid h
  have g0 := Blk.new w 30 #[.int .i64 s, v]
  obtain ⟨A, c, rfl, -⟩ := h.form
  obtain ⟨A2, c2, rfl, hc⟩ := hu.form
  have HU := Lib.hid hu
  have HC := Lib.hid hc
  clear h hu hc
  go_enter Try.func84, Try.ntmps84
  go_wp2_with fail
  go_loopg [5] xs.length (fun g i wr => ∃ k : Nat, k + g = xs.length ∧ i = .int .i64 ((k : Int) + 1) ∧ Hid (AscTo xs (k + 1)) ∧ Blk wr w.heap.size 30 #[.int .i64 s, .slice A l.length c] ∧ Below w.heap.size w wr)
  case atStart => exact ⟨0, by omega, rfl, AscTo.start _ _ (by omega), g0, (by have hz_ := (e_w).size; have hb_ := e_w; go_grown)⟩
  case round =>
    obtain ⟨k, hkg, rfl, hasc, hgb, hB⟩ := hrel
    obtain ⟨p0, p1, -, -⟩ := hgb.two
    by_cases hlt : k + 1 < xs.length
    · obtain ⟨x, hx⟩ : ∃ x, xs[k]? = some x := ⟨_, List.getElem?_eq_getElem (by omega)⟩
      obtain ⟨y, hy⟩ : ∃ y, xs[k + 1]? = some y := ⟨_, List.getElem?_eq_getElem hlt⟩
      obtain ⟨g, o, rfl, c0⟩ := HC.out k x hx
      obtain ⟨g', o', e', c1⟩ := HC.out (k + 1) y hy
      obtain ⟨rfl, rfl⟩ : g = g' ∧ o = o' := by simpa using e'
      have hlt' : (k : Int) + 1 < (xs.length : Int) := by omega
      have q0 : wr.cell? ⟨g, o + k, none⟩ = some (.int .i64 x) := (hB.cell (p := ⟨g, o + k, none⟩) (World.block_lt_of_cell? w (a := ⟨g, o + k, none⟩) c0)).trans c0
      have q1 : wr.cell? ⟨g, o + (k + 1), none⟩ = some (.int .i64 y) := (hB.cell (p := ⟨g, o + (k + 1), none⟩) (World.block_lt_of_cell? w (a := ⟨g, o + (k + 1), none⟩) c1)).trans c1
      have KK := Lib.hid (fun nq => (⟨hgb, below_drewN hB nq⟩ : Blk (wr.drewN nq) _ _ _ ∧ Below _ _ (wr.drewN nq)))
      have hj1 : IntKind.i64.wrap ((k : Int) + 1 - 1) = (k : Int) := by rw [show (k : Int) + 1 - 1 = (k : Int) from by omega]; exact IntWalk.i64_in _ (by omega)
      have hj1' : IntKind.i64.wrap (k : Int) = (k : Int) := IntWalk.i64_in _ (by omega)
      have hj2 : (0 : Int) ≤ (k : Int) := by omega
      have hj3 : (k : Int) < (xs.length : Int) := by omega
      have hj4 : (0 : Int) ≤ (k : Int) + 1 := by omega
      have hj5 : ((k : Int) + 1).toNat = k + 1 := by omega
      clear c0 c1 e'
      by_cases hxy : x < y
      · have HA := Lib.hid (hasc.out.succ (fun x' y' hx' hy' => by rw [hx] at hx'; rw [hy] at hy'; cases hx'; cases hy'; exact hxy))
        have d1 : decide (y ≤ x) = false := by simp; omega
        clear hx hy
        cases gk with
        | zero => omega
        | succ g2 =>
          go_wp2_with fail
          go_quiet (fail)
          go_wp2_with fail
          go_roundg g2
          case measure => omega
          case rel => exact ⟨k + 1, by omega, by go_num, HA, KK.out _⟩
      · have HN : Hid (¬ SetOk s l xs) := fun hh => not_asc hx hy (by omega) hh.2.2
        have d1 : decide (y ≤ x) = true := by simp; omega
        clear hx hy
        go_wp2_with fail
        go_quiet (fail)
        go_wp2_with fail
        go_ret
        exact ⟨ret_bool (okG_no HN.out).symm, (KK.out _).2⟩
    · have HA : Hid (Asc xs) := by
        apply AscTo.asc
        intro j x y hj hx hy
        exact hasc.out j x y (by omega) hx hy
      have HS := Lib.hid (hasNodes_any s (.slice A l.length c) (.slice A2 xs.length c2) l xs wr (H.out.below hB) hl (HU.out.below hB) hxl)
      have HE : Hid (nodesB s l xs = okG (SetOk s l xs)) := by
        by_cases hn : P2.Good s l ∧ ∀ x ∈ xs, 0 ≤ x ∧ x < s
        · show _ = _
          rw [nodesB_yes hn.1 hn.2, okG_yes ⟨hn.1, hn.2, HA.out⟩]
        · show _ = _
          rw [nodesB_no hn, okG_no (fun h => hn ⟨h.1, h.2.1⟩)]
      have hge : ¬ ((k : Int) + 1 < (xs.length : Int)) := by omega
      go_wp2_with fail
      refine HS.out.mono ?_
      rintro e w1 ⟨rfl, b1⟩
      go_wp2_with fail
      go_ret
      exact ⟨ret_bool HE.out, btrans hB b1⟩

def RisTo (xs : List Int) (lo hi : Int) (k : Nat) : Prop := (∀ j x, j < k → xs[j]? = some x → lo ≤ x ∧ x ≤ hi) ∧ AscTo xs k
theorem RisTo.all {xs : List Int} {lo hi : Int} (h : RisTo xs lo hi xs.length) : RisesIn xs lo hi :=
  ⟨fun x hx => by obtain ⟨j, hj⟩ := List.getElem?_of_mem hx; exact h.1 j x (List.getElem?_eq_some_iff.1 hj).1 hj, h.2.asc⟩
set_option maxHeartbeats 1000000 in
set_option maxRecDepth 100000 in
theorem l1Rising_any (u : Value) (xs : List Int) (lo hi : Int) (w : World) (hu : Ints w u xs) (hxl : xs.length ≤ 1048576) :
    Calls Try.prog 135 #[u, .int .i64 lo, .int .i64 hi] w fun e w' => e = .returned (.bool (okG (RisesIn xs lo hi))) ∧ Below w.heap.size w w' := by
  obtain ⟨A2, c2, rfl, hc⟩ := hu.form
  have HC := Lib.hid hc
  clear hu hc
  go_enter Try.func135, Try.ntmps135
  go_wp2_with fail
  go_loopg [7] xs.length (fun g i wr => ∃ k : Nat, k + g = xs.length ∧ i = .int .i64 (k : Int) ∧ Hid (RisTo xs lo hi k) ∧ Below w.heap.size w wr)
  case atStart => exact ⟨0, by omega, rfl, ⟨fun j x hj => by omega, AscTo.start _ _ (by omega)⟩, Below.refl _ _⟩
  case round =>
    obtain ⟨k, hkg, rfl, hris, hB⟩ := hrel
    cases gk with
    | zero =>
      obtain rfl : k = xs.length := by omega
      have HY := Lib.hid (okG_yes hris.out.all)
      go_wp2_with fail
      go_ret
      exact ⟨ret_bool HY.out.symm, hB⟩
    | succ g2 =>
      have hlt : k < xs.length := by omega
      have hlt' : (k : Int) < (xs.length : Int) := by omega
      obtain ⟨x, hx⟩ : ∃ x, xs[k]? = some x := ⟨_, List.getElem?_eq_getElem hlt⟩
      obtain ⟨g, o, rfl, c0⟩ := HC.out k x hx
      have q0 : wr.cell? ⟨g, o + k, none⟩ = some (.int .i64 x) := (hB.cell (p := ⟨g, o + k, none⟩) (World.block_lt_of_cell? w (a := ⟨g, o + k, none⟩) c0)).trans c0
      clear c0
      by_cases hin : lo ≤ x ∧ x ≤ hi
      · have ia : inB x lo hi = true := by simpa [inB] using hin
        by_cases hk0 : k = 0
        · subst hk0
          rw [Nat.add_zero] at q0
          have HR : Hid (RisTo xs lo hi (0 + 1)) := ⟨fun j y hj hy => by
            obtain rfl : j = 0 := by omega
            rw [hx] at hy; cases hy; exact hin, AscTo.start _ _ (by omega)⟩
          clear hx
          go_wp2_with fail
          go_quiet ((go_at_call 72; exact quiet_left (l1In_any _ _ _ _)))
          go_wp2_with fail
          go_roundg g2
          case measure => omega
          case rel => exact ⟨0 + 1, by omega, by go_num, HR, below_drewN hB _⟩
        · obtain ⟨j, rfl⟩ : ∃ j, k = j + 1 := ⟨k - 1, by omega⟩
          obtain ⟨y, hy⟩ : ∃ y, xs[j]? = some y := ⟨_, List.getElem?_eq_getElem (by omega)⟩
          obtain ⟨g', o', e', c1⟩ := HC.out j y hy
          obtain ⟨rfl, rfl⟩ : g = g' ∧ o = o' := by simpa using e'
          have hj1 : IntKind.i64.wrap ((j : Int) + 1 - 1) = (j : Int) := by rw [show (j : Int) + 1 - 1 = (j : Int) from by omega]; exact IntWalk.i64_in _ (by omega)
          have hj1' : IntKind.i64.wrap (j : Int) = (j : Int) := IntWalk.i64_in _ (by omega)
          have hj2 : (0 : Int) ≤ (j : Int) := by omega
          have hj3 : (j : Int) < (xs.length : Int) := by omega
          have q1 : wr.cell? ⟨g, o + j, none⟩ = some (.int .i64 y) := (hB.cell (p := ⟨g, o + j, none⟩) (World.block_lt_of_cell? w (a := ⟨g, o + j, none⟩) c1)).trans c1
          clear e' c1
          by_cases hyx : y < x
          · have HR : Hid (RisTo xs lo hi (j + 1 + 1)) := ⟨fun i z hi' hz => by
              by_cases e : i = j + 1
              · subst e; rw [hx] at hz; cases hz; exact hin
              · exact hris.out.1 i z (by omega) hz, hris.out.2.succ (fun a b ha hb => by rw [hy] at ha; rw [hx] at hb; cases ha; cases hb; exact hyx)⟩
            have d1 : decide (x ≤ y) = false := by simp; omega
            clear hx hy
            go_wp2_with fail
            go_quiet ((go_at_call 72; exact quiet_left (l1In_any _ _ _ _)))
            go_wp2_with fail
            go_roundg g2
            case measure => omega
            case rel => exact ⟨j + 1 + 1, by omega, by go_num, HR, below_drewN hB _⟩
          · have HN : Hid (¬ RisesIn xs lo hi) := fun hh => not_asc hy hx (by omega) hh.2
            have d1 : decide (x ≤ y) = true := by simp; omega
            clear hx hy
            go_wp2_with fail
            go_quiet ((go_at_call 72; exact quiet_left (l1In_any _ _ _ _)))
            go_wp2_with fail
            go_ret
            exact ⟨ret_bool (okG_no HN.out).symm, below_drewN hB _⟩
      · have ia : inB x lo hi = false := by simpa [inB] using hin
        have HN : Hid (¬ RisesIn xs lo hi) := fun hh => hin (hh.1 x (List.mem_of_getElem? hx))
        clear hx
        go_wp2_with fail
        go_quiet ((go_at_call 72; exact quiet_left (l1In_any _ _ _ _)))
        go_wp2_with fail
        go_ret
        exact ⟨ret_bool (okG_no HN.out).symm, below_drewN hB _⟩
theorem l2Set_any (s : Int) (v u : Value) (l : List Ed) (xs : List Int) (w : World) (hu : Ints w u xs) (hxl : xs.length ≤ 1048576) (h0 : 0 ≤ s) (h8 : s ≤ 8) :
    Calls Try.prog 81 #[.agg #[.int .i64 s, v], u] w fun e w' => e = .returned (.bool (okG (RisesIn xs 0 (s - 1)))) ∧ Below w.heap.size w w' := by
  have e_w := Below.refl w.heap.size w
  have b0 : Below w.heap.size w (w.alloc (.cells #[.int .i64 s, v] 30)) := (by have hz_ := (e_w).size; have hb_ := e_w; go_grown)
  obtain ⟨A2, c2, rfl, -⟩ := hu.form
  have HR := Lib.hid (l1Rising_any (.slice A2 xs.length c2) xs 0 (s - 1) _ (hu.below b0) hxl)
  clear hu
  go_enter Try.func81, Try.ntmps81
  go_wp2_with fail
  refine HR.out.mono ?_
  rintro e w1 ⟨rfl, b1⟩
  go_wp2_with fail
  go_ret
  exact ⟨rfl, btrans b0 b1⟩
theorem setOk_iff {s : Int} {l : List Ed} {xs : List Int} (h : P2.Good s l) : RisesIn xs 0 (s - 1) ↔ SetOk s l xs :=
  ⟨fun ⟨h1, h2⟩ => ⟨h, fun x hx => by have := h1 x hx; omega, h2⟩, fun ⟨_, h1, h2⟩ => ⟨fun x hx => by have := h1 x hx; omega, h2⟩⟩

def bitB (c k : Nat) : Bool := c.testBit k
theorem i64_and1 (n : Int) : bits .and .i64 n 1 = n % 2 := by
  have h1 : (BitVec.ofInt 64 1).toNat = 2 ^ 1 - 1 := by decide
  have key : (BitVec.ofInt 64 n &&& BitVec.ofInt 64 1).toNat = (n % ((2 ^ 64 : Nat) : Int)).toNat % 2 ^ 1 := by
    rw [BitVec.toNat_and, BitVec.toNat_ofInt, h1, Nat.and_two_pow_sub_one_eq_mod]
  show IntKind.i64.wrap ((BitVec.ofInt 64 n &&& BitVec.ofInt 64 1).toNat : Nat) = n % 2
  rw [key, IntKind.wrap_i64]
  omega
theorem bit_walk (c k : Nat) : (bits BinOp.and IntKind.i64 ((c : Int) / 2 ^ k) 1 == 1) = bitB c k := by
  rw [i64_and1]
  unfold bitB
  rw [Nat.testBit_eq_decide_div_mod_eq, Bool.eq_iff_iff, beq_iff_eq, decide_eq_true_iff]
  have : ((c : Int) / 2 ^ k) = ((c / 2 ^ k : Nat) : Int) := by simp
  rw [this]
  omega
set_option maxHeartbeats 1000000 in
set_option maxRecDepth 100000 in
theorem l2Bits_any (n c : Nat) (w : World) (hn : n ≤ 8) (hc : c ≤ 100000) :
    Calls Try.prog 158 #[.int .i64 (n : Int), .int .i64 (c : Int)] w (RowI w (nw (bitB c) n)) := by
  obtain ⟨i0, hi, hz0, hz1, hz2⟩ := info_parts infoInt
  have O0 := Lib.hid (own_new0 w 3 1)
  have e_w := Below.refl w.heap.size w
  go_enter Try.func158, Try.ntmps158
  go_wp2_with fail
  go_loopg [5, 6] n (fun g s i wr => ∃ k : Nat, k + g = n ∧ i = .int .i64 (k : Int) ∧ wr.ownsRow w.heap.size 3 1 s (nw (bitB c) k).length (cellsI (nw (bitB c) k)) ∧ Below w.heap.size w wr)
  case atStart => exact ⟨0, by omega, rfl, O0.out, (by have hz_ := (e_w).size; have hb_ := e_w; go_grown)⟩
  case round =>
    obtain ⟨k, hkg, rfl, hrow, hB⟩ := hrel
    have hlen := nw_len (bitB c) k
    have hsz := hB.size
    cases gk with
    | zero =>
      obtain rfl : k = n := by omega
      obtain ⟨A2, c2, rfl⟩ := own_form hrow
      go_wp2_with fail
      go_ret
      exact ⟨A2, c2, rfl, hrow, hB⟩
    | succ g2 =>
      have hlt : k < n := by omega
      have hlt' : (k : Int) < (n : Int) := by omega
      have hb := bit_walk c k
      cases hp : bitB c k with
      | true =>
        have HN := Lib.hid (nw_yes hp)
        rw [hp] at hb
        clear hp
        generalize nw (bitB c) k = m at *
        go_wp2_with (at_builtin; refine wpList_append_own _ rfl _ _ 25 rfl (w.heap.size) 3 i0 (.int .i64 0) 1 8 Try.underlying25 hi hz0 hz1 hz2 rfl (by decide) _ _ _ rfl (hrow.alloc _) ⟨wr.heap.size, 0, none⟩ 1 1 [.int .i64 ((k : Int))] rfl rfl (cell_one_new _ _ _) (fun x hx => by simp at hx; subst hx; rfl) (by unfold maxLen; omega) (by omega) (by simp; omega) ?_; intro v2 w2 hown2 hgrow2 _)
        obtain ⟨hown3, hB2⟩ := push1 hrow hown2 hgrow2 hsz
        clear hgrow2 hrow hown2 hb
        go_roundg g2
        case measure => omega
        case rel => exact ⟨k + 1, by omega, by go_num, by rw [HN.out]; exact hown3, hB.trans hB2⟩
      | false =>
        have HN := Lib.hid (nw_no hp)
        rw [hp] at hb
        clear hp
        go_wp2_with fail
        clear hb
        go_roundg g2
        case measure => omega
        case rel => exact ⟨k + 1, by omega, by go_num, by rw [HN.out]; exact hrow, hB⟩


theorem nw_all (n : Nat) (p : Nat → Bool) (h : ∀ k, k < n → p k = true) : nw p n = (List.range n).map fun x : Nat => (x : Int) := by
  unfold nw
  rw [List.filter_eq_self.2 (fun k hk => h k (List.mem_range.1 hk))]
def allN (n : Nat) : List Int := (List.range n).map fun x : Nat => (x : Int)
theorem allN_len (n : Nat) : (allN n).length = n := by simp [allN]
theorem mem_allN {n : Nat} {x : Int} : x ∈ allN n ↔ 0 ≤ x ∧ x < n := by
  simp only [allN, List.mem_map, List.mem_range]
  constructor
  · rintro ⟨k, hk, rfl⟩; omega
  · intro h; exact ⟨x.toNat, by omega, by omega⟩
theorem bits_all (n : Nat) : nw (bitB (2 ^ n - 1)) n = allN n := nw_all n _ fun k hk => by
  unfold bitB
  rw [Nat.testBit_two_pow_sub_one]
  simpa using hk
end Go.Proofs.Ytpeobnmfndelhaa.sets

/- append onto a row of the call's own, from whatever slice: nil, empty, a part of another one. It imports nothing of the program. -/
namespace Go.Proofs.Ytpeobnmfndelhaa.apps
open Go.RowKit words

theorem addr_add (g o j : Nat) : (⟨g, o, none⟩ : Addr).add j = ⟨g, o + j, none⟩ := by unfold Addr.add; split <;> simp_all

/-- where a grown row lies: in its old block, or in the new one -/
def LiesIn (v v' : Value) (H : Nat) : Prop := v'.ownBlock = v.ownBlock ∨ v'.ownBlock = some H

section
variable {P : Program} (w : World)
theorem run_append_any (t ty : TypeId) (base : Nat) (e : TypeId) (i : TypeInfo) (z : Value) (size bytes : Nat) (ht : P.underlying t = some (.slice e)) (hi : P.info? e = some i) (hz : i.zero = some z)
    (hsize : i.size = size) (hby : i.bytes = bytes) (hzs : z.cells.size = size) (hsz : 0 < size)
    (v : Value) (n : Nat) (xs : List Value) (hown : w.ownsRow base e size v n xs)
    (u : Value) (m : Nat) (news : List Value) (hr : Reads w size u m news) (hl : news.length = m * size) (h1 : ∀ x ∈ news, x.oneCell' = true)
    (h63 : n + m ≤ maxLen) (hbytes : (n + m) * bytes ≤ 140737488355328) (hbase : base ≤ w.heap.size) :
    ∃ v' w', (Builtin.append_ #[t, t] ty #[v, u]).run P w = .ok v' w' ∧ w'.ownsRow base e size v' (n + m) (xs ++ news) ∧ w.grownBy w' v.ownBlock := by
  obtain ⟨A, c, rfl, hc⟩ := hr
  cases A with
  | some ad =>
    by_cases hm : 0 < m
    · obtain ⟨g, o, hA, _, hcell⟩ := hc hm
      cases hA
      obtain ⟨v', w', hrun, h2, h3, _⟩ := run_append_own (P := P) w base t ty e i z size bytes ht hi hz hsize hby hzs hsz v n xs hown ⟨g, o, none⟩ m c news hl (fun j x hx => by rw [addr_add]; exact hcell j x hx) h1 h63 hbytes hbase
      exact ⟨v', w', hrun, h2, h3⟩
    · obtain rfl : m = 0 := by omega
      obtain rfl : news = [] := List.eq_nil_of_length_eq_zero (by simpa using hl)
      obtain ⟨v', w', hrun, h2, h3, _⟩ := run_append_own (P := P) w base t ty e i z size bytes ht hi hz hsize hby hzs hsz v n xs hown ad 0 c [] (by simp) (fun j x hx => by simp at hx) h1 h63 hbytes hbase
      exact ⟨v', w', hrun, h2, h3⟩
  | none =>
    obtain rfl : m = 0 := by
      rcases Nat.eq_zero_or_pos m with h | h
      · exact h
      · obtain ⟨g, o, hA, _⟩ := hc h
        cases hA
    obtain rfl : news = [] := List.eq_nil_of_length_eq_zero (by simpa using hl)
    refine ⟨v, w, ?_, by simpa using hown, World.grownBy.refl _ _⟩
    subst hsize
    rcases hown.2 with ⟨rfl, rfl⟩ | ⟨g, cap, cur, rfl, _, _, hnc, _⟩
    · simp [Builtin.append_, run_underlying ht, sizeOf, typeInfo, hi, Builtin.lenOf, Builtin.firstCells]
    · simp [Builtin.append_, run_underlying ht, sizeOf, typeInfo, hi, Builtin.lenOf, Builtin.firstCells, hnc, storeCells]

theorem wp_append_any {o : Oper} {a : Act} {K : Act → World → Prop} {Q : Exit → Act → World → Prop} (s x : Operand) (t : TypeId)
    (ho : o.op = .call { callee := .builtin .append, args := #[s, x], argTypes := #[t, t] })
    (base : Nat) (e : TypeId) (i : TypeInfo) (z : Value) (size bytes : Nat) (ht : P.underlying t = some (.slice e)) (hi : P.info? e = some i) (hz : i.zero = some z)
    (hsize : i.size = size) (hby : i.bytes = bytes) (hzs : z.cells.size = size) (hsz : 0 < size)
    (v : Value) (n : Nat) (xs : List Value) (hs : a.eval s = v) (hown : w.ownsRow base e size v n xs)
    (u : Value) (m : Nat) (news : List Value) (hx : a.eval x = u) (hr : Reads w size u m news) (hl : news.length = m * size) (h1 : ∀ x ∈ news, x.oneCell' = true)
    (h63 : n + m ≤ maxLen) (hbytes : (n + m) * bytes ≤ 140737488355328) (hbase : base ≤ w.heap.size)
    (h : ∀ v' w', w'.ownsRow base e size v' (n + m) (xs ++ news) → w.grownBy w' v.ownBlock → K (a.put o.dst v') w') : o.wp P a w K Q := by
  obtain ⟨v', w', hrun, h2, h3⟩ := run_append_any (P := P) w t o.type base e i z size bytes ht hi hz hsize hby hzs hsz v n xs hown u m news hr hl h1 h63 hbytes hbase
  unfold Oper.wp execOp
  simp only [ho, resolve, invoke, builtin, Sem.run_bind, Sem.run_pure, Result.andThen_ok, List.map_toArray, List.map_cons, List.map_nil, hs, hx, hrun]
  exact h v' w' h2 h3
theorem wpList_append_any {ops : Array Oper} {rest : List Oper} {o : Oper} {a : Act} {Q : Exit → Act → World → Prop} (hgd : o.guard = none) (s x : Operand) (t : TypeId)
    (ho : o.op = .call { callee := .builtin .append, args := #[s, x], argTypes := #[t, t] })
    (base : Nat) (e : TypeId) (i : TypeInfo) (z : Value) (size bytes : Nat) (ht : P.underlying t = some (.slice e)) (hi : P.info? e = some i) (hz : i.zero = some z)
    (hsize : i.size = size) (hby : i.bytes = bytes) (hzs : z.cells.size = size) (hsz : 0 < size)
    (v : Value) (n : Nat) (xs : List Value) (hs : a.eval s = v) (hown : w.ownsRow base e size v n xs)
    (u : Value) (m : Nat) (news : List Value) (hx : a.eval x = u) (hr : Reads w size u m news) (hl : news.length = m * size) (h1 : ∀ x ∈ news, x.oneCell' = true)
    (h63 : n + m ≤ maxLen) (hbytes : (n + m) * bytes ≤ 140737488355328) (hbase : base ≤ w.heap.size)
    (h : ∀ v' w', w'.ownsRow base e size v' (n + m) (xs ++ news) → w.grownBy w' v.ownBlock → wpList P ops Q rest (a.put o.dst v') w') : wpList P ops Q (o :: rest) a w :=
  wpList_plain hgd fun _ hK => wp_append_any w s x t ho base e i z size bytes ht hi hz hsize hby hzs hsz v n xs hs hown u m news hx hr hl h1 h63 hbytes hbase fun v' w' h2 h3 => hK _ _ (h v' w' h2 h3)
theorem step_append_any {ops : Array Oper} {o : Oper} {a : Act} {K : Act → World → Prop} {Q : Exit → Act → World → Prop} {E : Prop} (hgd : o.guard = none) (s x : Operand) (t : TypeId)
    (ho : o.op = .call { callee := .builtin .append, args := #[s, x], argTypes := #[t, t] })
    (base : Nat) (e : TypeId) (i : TypeInfo) (z : Value) (size bytes : Nat) (ht : P.underlying t = some (.slice e)) (hi : P.info? e = some i) (hz : i.zero = some z)
    (hsize : i.size = size) (hby : i.bytes = bytes) (hzs : z.cells.size = size) (hsz : 0 < size)
    (v : Value) (n : Nat) (xs : List Value) (hs : a.eval s = v) (hown : w.ownsRow base e size v n xs)
    (u : Value) (m : Nat) (news : List Value) (hx : a.eval x = u) (hr : Reads w size u m news) (hl : news.length = m * size) (h1 : ∀ x ∈ news, x.oneCell' = true)
    (h63 : n + m ≤ maxLen) (hbytes : (n + m) * bytes ≤ 140737488355328) (hbase : base ≤ w.heap.size)
    (h : ∀ v' w', w'.ownsRow base e size v' (n + m) (xs ++ news) → w.grownBy w' v.ownBlock → K (a.put o.dst v') w') :
    if Region.wanted o (yielded ops a.tmps) = true then Oper.wp P o a w K Q else E := by
  have hw : Region.wanted o (yielded ops a.tmps) = true := by simp [Region.wanted, hgd]
  rw [if_pos hw]
  exact wp_append_any w s x t ho base e i z size bytes ht hi hz hsize hby hzs hsz v n xs hs hown u m news hx hr hl h1 h63 hbytes hbase h
end
/-- a part of a slice of edges -/
theorem Reads.take {w : World} {size n k : Nat} {A : Option Addr} {c c' : Nat} {xs : List Value} (h : Reads w size (.slice A n c) n xs) (hk : k ≤ n) (hc : k ≤ c') : Reads w size (.slice A k c') k (xs.take (k * size)) := by
  obtain ⟨A', c2, e, hx⟩ := h
  cases e
  refine ⟨_, _, rfl, fun hn => ?_⟩
  obtain ⟨g, o, eA, _, hj⟩ := hx (by omega)
  refine ⟨g, o, eA, hc, fun j u hu => hj j u ?_⟩
  rw [List.getElem?_take] at hu
  split at hu
  · exact hu
  · cases hu
theorem Reads.drop {w : World} {size n k : Nat} {A : Option Addr} {c : Nat} {xs : List Value} (h : Reads w size (.slice A n c) n xs) (hk : k ≤ n) :
    Reads w size (.slice (if c = k then A else A.map (·.add (k * size))) (n - k) (c - k)) (n - k) (xs.drop (k * size)) := by
  obtain ⟨A', c2, e, hx⟩ := h
  cases e
  refine ⟨_, _, rfl, fun hn => ?_⟩
  obtain ⟨g, o, eA, hc, hj⟩ := hx (by omega)
  subst eA
  rw [if_neg (by omega)]
  refine ⟨g, o + k * size, by simp [addr_add], by omega, fun j u hu => ?_⟩
  rw [List.getElem?_drop] at hu
  have := hj (k * size + j) u hu
  rw [Nat.add_assoc]; exact this
theorem cellsE_take (l : List P2.Ed) (k : Nat) : (cellsE l).take (k * 2) = cellsE (l.take k) := by
  induction k generalizing l with
  | zero => simp [cellsE]
  | succ k ih =>
    cases l with
    | nil => simp [cellsE]
    | cons a l =>
      have := ih l
      simp only [cellsE, List.flatMap_cons, List.take_succ_cons] at this ⊢
      rw [show (k + 1) * 2 = k * 2 + 1 + 1 from by omega]
      simp [this]
theorem cellsE_drop (l : List P2.Ed) (k : Nat) : (cellsE l).drop (k * 2) = cellsE (l.drop k) := by
  induction k generalizing l with
  | zero => simp
  | succ k ih =>
    cases l with
    | nil => simp [cellsE]
    | cons a l =>
      have := ih l
      simp only [cellsE, List.flatMap_cons, List.drop_succ_cons] at this ⊢
      rw [show (k + 1) * 2 = k * 2 + 1 + 1 from by omega]
      simp [this]
theorem cellsI_take (l : List Int) (k : Nat) : (cellsI l).take (k * 1) = cellsI (l.take k) := by simp [cellsI, List.map_take]
theorem cellsI_drop (l : List Int) (k : Nat) : (cellsI l).drop (k * 1) = cellsI (l.drop k) := by simp [cellsI, List.map_drop]
theorem oneE (l : List P2.Ed) : ∀ x ∈ cellsE l, x.oneCell' = true := fun x hx => by
  simp only [cellsE, List.mem_flatMap] at hx
  obtain ⟨e, _, hx⟩ := hx
  simp at hx
  rcases hx with rfl | rfl <;> rfl
theorem oneI (l : List Int) : ∀ x ∈ cellsI l, x.oneCell' = true := fun x hx => by
  simp only [cellsI, List.mem_map] at hx
  obtain ⟨e, _, rfl⟩ := hx
  rfl
end Go.Proofs.Ytpeobnmfndelhaa.apps

/- The contract of the program's listsFrom. -/
namespace Go.Proofs.Ytpeobnmfndelhaa.lists
open Go.RowKit P2 words edges ints good adjs fns sets rets apps gridr grid
set_option linter.unusedVariables false

/-- the rows of a table of lists -/
def rowsN (Ls : List (List Nat)) : List (List Int) := Ls.map castL
theorem rowsN_len (Ls : List (List Nat)) : (rowsN Ls).length = Ls.length := by simp [rowsN]
theorem rowsN_app (Ls Ms : List (List Nat)) : rowsN (Ls ++ Ms) = rowsN Ls ++ rowsN Ms := by simp [rowsN]
theorem rowsN_at {Ls : List (List Nat)} {k : Nat} {L : List Nat} (h : Ls[k]? = some L) : (rowsN Ls)[k]? = some (castL L) := by simp [rowsN, h]
/-- a table of lists of the call's own -/
def RetL (w : World) (Ls : List (List Nat)) (e : Ending) (w' : World) : Prop :=
  ∃ A c us, e = .returned (.slice A (rowsN Ls).length c) ∧ OwnG w' w.heap.size (.slice A (rowsN Ls).length c) us (rowsN Ls) ∧ Below w.heap.size w w'
theorem take_succ_map {Ls : List (List Nat)} {j : Nat} {L : List Nat} (x : Nat) (h : Ls[j]? = some L) : (Ls.take (j + 1)).map (x :: ·) = (Ls.take j).map (x :: ·) ++ [x :: L] := by
  rw [List.take_add_one, h, List.map_append]; rfl
theorem grid_one (w : World) (L : List Nat) (hL : L = []) : OwnG (w.alloc (.cells #[.slice none 0 0] 25)) w.heap.size (.slice (some ⟨w.heap.size, 0, none⟩) 1 1) [.slice none 0 0] (rowsN [L]) := by
  subst hL
  refine ⟨World.ownsRow_lit (size := 1) w #[.slice none 0 0] 1 (Nat.le_refl _) (by unfold maxLen; omega) rfl, ?_, ?_⟩
  · intro i u r hu hr
    cases i with
    | zero => cases hu; cases hr; exact World.ownsRow_nil _ _ _ _
    | succ i => simp at hu
  · intro i j u u' k hij hu hu'
    cases j with
    | zero => omega
    | succ j => simp at hu'

/-- a table is kept where another one grows -/
theorem keepG {w w' : World} {B B9 n9 : Nat} {v lw : Value} {us xs9 : List Value} {rows : List (List Int)} (h : OwnG w B v us rows) (hl : w.ownsRow B9 25 1 lw n9 xs9) (hs : ∀ b, v.ownBlock = some b → lw.ownBlock ≠ some b) (hg : w.grownBy w' lw.ownBlock) : OwnG w' B v us rows := by
  refine ⟨h.1.kept hg ?_, fun i u r hu hr => (h.2.1 i u r hu hr).kept hg ?_, h.2.2⟩
  · cases hv : v.ownBlock with
    | none => exact .inl rfl
    | some b => exact .inr fun e => hs b hv e.symm
  · cases hv : u.ownBlock with
    | none => exact .inl rfl
    | some b => exact .inr fun e => own_apart (h.2.1 i u r hu hr) hl tneI b hv e.symm

set_option maxHeartbeats 4000000 in
set_option maxRecDepth 100000 in
theorem listsFrom_any (n : Nat) (hn : n ≤ 8) : ∀ (k : Nat), k ≤ 3 → ∀ (f : Nat), f ≤ n → ∀ (w : World),
    Calls Try.prog 57 #[.int .i64 (f : Int), .int .i64 (n : Int), .int .i64 (k : Int)] w (RetL w (listsN n k f)) := by
  intro k
  induction k with
  | zero =>
    intro _ f hf w
    have HG := Lib.hid (grid_one w [] rfl)
    have HB : Hid (Below w.heap.size w (w.alloc (.cells #[.slice none 0 0] 25))) := (Below.refl _ _).alloc (Nat.le_refl _) _
    go_enter Try.func57, Try.ntmps57
    go_wp2_with fail
    go_ret
    exact ⟨_, _, _, rfl, HG.out, HB.out⟩
  | succ k ih =>
    intro hk f hf w
    obtain ⟨i0, hi, hz0, hz1, hz2⟩ := info_parts infoInt
    obtain ⟨i1, hi1, hy0, hy1, hy2⟩ := info_parts infoRow
    have HIH := Lib.hid (ih (by omega))
    have hwr : IntKind.i64.wrap (((k + 1 : Nat) : Int) - 1) = (k : Int) := by
      rw [show ((k + 1 : Nat) : Int) - 1 = (k : Int) from by omega]; exact IntWalk.i64_in _ (by omega)
    have d0 : (((k + 1 : Nat) : Int) == 0) = false := by simp; omega
    have h8k : 8 * 8 ^ k ≤ 512 := by
      have := Nat.pow_le_pow_right (show 0 < 8 by decide) (show k ≤ 2 by omega)
      omega
    generalize hkk : ((k + 1 : Nat) : Int) = kk at *
    have HN : Hid (listsN n (k + 1) f = outK n k f n) := rfl
    clear ih hkk
    go_enter Try.func57, Try.ntmps57
    go_wp2_with fail
    go_loopg [7, 8] (n - f) (fun g lv iv wr => ∃ (x : Nat) (lw : Value) (us : List Value), lw = lv ∧ f ≤ x ∧ x + g = n ∧ iv = .int .i64 (x : Int) ∧ OwnG wr w.heap.size lw us (rowsN (outK n k f x)) ∧ Below w.heap.size w wr)
    case atStart => exact ⟨f, _, [], rfl, Nat.le_refl _, by omega, rfl, by rw [outK_nil]; exact OwnG.nil _ _, Below.refl _ _⟩
    case round =>
      obtain ⟨x, lw, us, rfl, hfx, hxg, rfl, hG, hB⟩ := hrel
      cases gk with
      | zero =>
        obtain rfl : x = n := by omega
        obtain ⟨A4, c4, rfl⟩ := own_form hG.1
        have HG := Lib.hid hG
        clear hG
        go_wp2_with fail
        go_ret
        exact ⟨A4, c4, us, rfl, HG.out, hB⟩
      | succ g2 =>
        have hlt : x < n := by omega
        have hlt' : (x : Int) < (n : Int) := by omega
        obtain ⟨wo, hwo⟩ : ∃ wo, wo = wr := ⟨_, rfl⟩
        subst hwo
        have HCA := Lib.hid (HIH.out x (by omega) wo)
        have HG := Lib.hid hG
        have HBO := Lib.hid hB
        have hlk := lists_len hn k x
        have hok := out_len hn (k := k) (f := f) (x := x) (by omega)
        have hos := out_len hn (k := k) (f := f) (x := x + 1) (by omega)
        have HOS := Lib.hid (outK_succ (n := n) (k := k) hfx)
        clear hG hB
        go_wp2_with fail
        refine HCA.out.mono ?_
        rintro e w5 ⟨A5, c5, us5, rfl, o5, b5⟩
        have HR := Lib.hid o5
        have HG5 := Lib.hid (HG.out.below b5)
        have HBW5 := Lib.hid (btrans HBO.out b5)
        have hrl := rowsN_len (listsN n k x)
        have hg9 : Hid (OwnG w5 w.heap.size lw us (rowsN (outK n k f x ++ ((listsN n k x).take 0).map (x :: ·)))) := by
          show OwnG _ _ _ _ _
          rw [List.take_zero, List.map_nil, List.append_nil]; exact HG5.out
        have HSEP : Hid (∀ b, lw.ownBlock = some b → b < wo.heap.size ∨ w5.heap.size ≤ b) := fun b hb => .inl (HG.out.1.lt b hb).2
        have HIN : Hid (∀ b, (Value.slice A5 (rowsN (listsN n k x)).length c5).ownBlock = some b → wo.heap.size ≤ b ∧ b < w5.heap.size) := fun b hb => o5.1.lt b hb
        clear b5 o5
        go_wp2_with fail
        go_loopg [7, 26] (listsN n k x).length (fun g lv iv wr => ∃ (j : Nat) (lw : Value) (us : List Value), lw = lv ∧ j + g = (listsN n k x).length ∧ iv = .int .i64 (j : Int) ∧ OwnG wr w.heap.size lw us (rowsN (outK n k f x ++ ((listsN n k x).take j).map (x :: ·))) ∧
          OwnG wr wo.heap.size (.slice A5 (rowsN (listsN n k x)).length c5) us5 (rowsN (listsN n k x)) ∧ Hid (∀ b, lw.ownBlock = some b → b < wo.heap.size ∨ w5.heap.size ≤ b) ∧ Below w.heap.size w wr ∧ w5.heap.size ≤ wr.heap.size)
        case atStart => exact ⟨0, _, us, rfl, by omega, rfl, hg9.out, HR.out, HSEP, HBW5.out, Nat.le_refl _⟩
        case round =>
          clear hg9 HSEP HR HG5
          obtain ⟨j, lw, us, rfl, hjg, rfl, hG, hR, hsep, hB, hsz⟩ := hrel
          cases gk with
          | zero =>
            obtain rfl : j = (listsN n k x).length := by omega
            rw [List.take_length, ← HOS.out] at hG
            have HG9 := Lib.hid hG
            clear hG hR
            go_wp2_with fail
            go_roundg g2
            case measure => omega
            case rel => exact ⟨x + 1, _, us, rfl, by omega, by omega, by go_num, HG9.out, hB⟩
          | succ g3 =>
            have hjl : j < (listsN n k x).length := by omega
            have hjl' : (j : Int) < ((rowsN (listsN n k x)).length : Int) := by rw [rowsN_len]; omega
            obtain ⟨L, hL⟩ : ∃ L, (listsN n k x)[j]? = some L := ⟨_, List.getElem?_eq_getElem hjl⟩
            obtain ⟨u, g, o, hu, hAx, c0, hru⟩ := (gridl.readsG_of_own hR).row (rowsN_at hL)
            subst hAx
            obtain ⟨Ar, cr, rfl, -⟩ := hru.form
            have hLk := (lists_mem k x L (List.mem_of_getElem? hL)).1
            have hLn : (castL L).length ≤ 3 := by rw [castL_len]; omega
            have HRW : Hid (rowsN (outK n k f x ++ ((listsN n k x).take (j + 1)).map (x :: ·)) = rowsN (outK n k f x ++ ((listsN n k x).take j).map (x :: ·)) ++ [castL (x :: L)]) := by
              show _ = _
              rw [take_succ_map x hL, ← List.append_assoc, rowsN_app]; rfl
            have hrows : (rowsN (outK n k f x ++ ((listsN n k x).take j).map (x :: ·))).length ≤ 2000 := by
              rw [rowsN_len, List.length_append, List.length_map, List.length_take]; omega
            have hHR : Hid (Ints (wr.alloc (.cells #[.int .i64 (x : Int)] 3)) (.slice Ar (castL L).length cr) (castL L)) := hru.below ((Below.refl _ _).alloc (Nat.le_refl _) _)
            have HO1 := Lib.hid (own_new1 wr 3 (x : Int))
            have hcl : Hid ((cellsI (castL L)).length = (castL L).length * 1) := by show _ = _; simp [cellsI]
            have HB1 : Hid (Below wr.heap.size wr (wr.alloc (.cells #[.int .i64 (x : Int)] 3))) := (Below.refl _ _).alloc (Nat.le_refl _) _
            obtain ⟨A4, c4, rfl⟩ := own_form hG.1
            have HG := Lib.hid hG
            have HR := Lib.hid hR
            have HB := Lib.hid hB
            have hwb := hB.size
            clear hL hG hR hu hru hB hjl hLk
            generalize rowsN (outK n k f x ++ ((listsN n k x).take j).map (x :: ·)) = rows at *
            go_wp2_with (first | (at_builtin; refine wpList_append_any _ rfl (.tmp 32) (.tmp 33) 25 rfl wr.heap.size 3 i0 (.int .i64 0) 1 8 Try.underlying25 hi hz0 hz1 hz2 rfl (by decide) _ _ _ rfl HO1.out (.slice Ar (castL L).length cr) (castL L).length (cellsI (castL L)) rfl hHR.out hcl.out (oneI _) (by unfold maxLen; simp; omega) (by simp; omega) (by simp) ?_; intro v2 w6 o6 gr6; have hB6 : Below wr.heap.size wr w6 := HB1.out.grown gr6 (by simp) (fun j e => (HO1.out.lt j e).1); have o7 : w6.ownsRow wr.heap.size 3 1 v2 (castL (x :: L)).length (cellsI (castL (x :: L))) := by { have h_ := o6; rw [show [(x : Int)].length + (castL L).length = (castL (x :: L)).length from by simp [castL]; omega] at h_; exact h_ }; clear o6 gr6; obtain ⟨A6, c6, rfl⟩ := own_form o7; have hown5 := (HG.out.below hB6).1; have hR6 := HR.out.below hB6; have hul : us.length ≤ 2000 := (HG.out.len ▸ hrows); have hsz6 := hB6.size) | (at_builtin; refine wpList_append_own_at _ rfl (.tmp 30) (.tmp 35) 27 rfl w.heap.size 25 i1 (.slice none 0 0) 1 24 Try.underlying27 hi1 hy0 hy1 hy2 rfl (by decide) _ _ _ rfl (hown5.alloc _) ⟨w6.heap.size, 0, none⟩ 1 1 [.slice A6 (castL (x :: L)).length c6] rfl rfl (cell_one_new _ _ _) (fun x hx => by simp at hx; subst hx; rfl) (by unfold maxLen; omega) (by omega) (by simp; omega) ?_; intro v6 w7 hown7 hgrow7 _ hat7))
            have HG7 := Lib.hid (OwnG.push HG.out hB6 hwb o7 hown7 rfl hgrow7)
            have hal6 := (Below.refl w6.heap.size w6).alloc (Nat.le_refl _) (.cells #[.slice A6 (castL (x :: L)).length c6] 25)
            have hgl := World.size_alloc w6 (.cells #[.slice A6 (castL (x :: L)).length c6] 25)
            have HR7 := Lib.hid (keepG (hR6.below hal6) (hown5.alloc _) (fun b hb e => by
              have h1 := HIN.out b hb
              have h2 := hsep.out b e
              omega) hgrow7)
            have HB7 := Lib.hid (((btrans HB.out hB6).alloc (by omega) (.cells #[.slice A6 (castL (x :: L)).length c6] 25)).grown hgrow7 (by rw [hgl]; omega) (fun j e => (hown5.lt j e).1))
            have hsz7 := HB7.out.size
            have hge7 : w6.heap.size ≤ w7.heap.size := by
              have := hgrow7.size
              rw [hgl] at this; omega
            have HSP : Hid (∀ b, v6.ownBlock = some b → b < wo.heap.size ∨ w5.heap.size ≤ b) := fun b hb => by
              rcases hat7 with h1 | h1
              · exact hsep.out b (h1.symm.trans hb)
              · rw [h1] at hb
                have h2 : (w6.alloc (.cells #[.slice A6 (castL (x :: L)).length c6] 25)).heap.size = b := by simpa using hb
                rw [hgl] at h2
                right; omega
            clear hown7 hgrow7 hown5 hR6 hal6 hgl hat7 hB6 o7
            go_roundg g3
            case measure => omega
            case rel => exact ⟨j + 1, _, _, rfl, by omega, by go_num, by rw [HRW.out]; exact HG7.out, HR7.out, HSP, HB7.out, by omega⟩
end Go.Proofs.Ytpeobnmfndelhaa.lists

/- The contracts of the model's l3Sign and l1Own. -/
namespace Go.Proofs.Ytpeobnmfndelhaa.times
open Go.RowKit P2 words edges ints good adjs fns sets rets apps
set_option linter.unusedVariables false

set_option maxHeartbeats 1000000 in
theorem l1Own_any (u : Value) (xs : List Int) (w : World) (hu : Ints w u xs) (hxl : xs.length ≤ 1048576) : Calls Try.prog 65 #[u] w (RowI w xs) := by
  obtain ⟨i0, hi, hz0, hz1, hz2⟩ := info_parts infoInt
  obtain ⟨A2, c2, rfl, -⟩ := hu.form
  have HR : Hid (Ints (w.alloc (.cells #[] 3)) (.slice A2 xs.length c2) xs) := hu.below ((Below.refl _ _).alloc (Nat.le_refl _) _)
  have HO := Lib.hid (own_new0 w 3 1)
  have HB : Hid (Below w.heap.size w (w.alloc (.cells #[] 3))) := (Below.refl _ _).alloc (Nat.le_refl _) _
  have hcl : Hid ((cellsI xs).length = xs.length * 1) := by show _ = _; simp [cellsI]
  clear hu
  go_enter Try.func65, Try.ntmps65
  go_wp2_with (at_builtin; refine wpList_append_any _ rfl (.tmp 3) (.tmp 4) 25 rfl w.heap.size 3 i0 (.int .i64 0) 1 8 Try.underlying25 hi hz0 hz1 hz2 rfl (by decide) _ _ _ rfl HO.out (.slice A2 xs.length c2) xs.length (cellsI xs) rfl HR.out hcl.out (oneI _) (by unfold maxLen; omega) (by omega) (by simp) ?_; intro v2 w4 o4 gr4)
  rw [Nat.zero_add, List.nil_append] at o4
  obtain ⟨A4, c4, rfl⟩ := own_form o4
  have HB4 := Lib.hid (HB.out.grown gr4 (by simp) (fun j e => (HO.out.lt j e).1))
  have HO4 := Lib.hid o4
  clear gr4 o4
  go_wp2_with fail
  go_ret
  exact ⟨A4, c4, by simp, HO4.out, HB4.out⟩
end Go.Proofs.Ytpeobnmfndelhaa.times
