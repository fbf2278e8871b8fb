/- Sets of nodes: lists in ascending order, and the contracts of hasSet, l1Rising, l2Set, l2Bits, l2All, l2Without. -/
import Derived.Handy
import Derived.Test.YthgahkkjdpljjaaDoorAdj
import Derived.Test.YthgahkkjdpljjaaDoorFns
import Derived.Test.YthgahkkjdpljjaaDoorRet
import Derived.Laws.BitsLemmas
import Derived.Deep.RegionHeld3
namespace Go.Proofs.YthgahkkjdpljjaaDoor.sets
open Go.RowKit P2 words edges ints good adjs fns rets
set_option linter.unusedVariables false

/-- a new list of numbers is returned -/
def RowI (w : World) (l : List Int) (e : Ending) (w' : World) : Prop :=
  ∃ A c, e = .returned (.slice A l.length c) ∧ w'.ownsRow w.heap.size 3 1 (.slice A l.length c) l.length (cellsI l) ∧ Below w.heap.size w w'
theorem RowI.below {w w' : World} {l : List Int} {e : Ending} (h : RowI w l e w') : Below w.heap.size w w' := by
  obtain ⟨A, c, _, _, h⟩ := h; exact h
/-- a cell that a callee keeps, said anew behind it -/
theorem keepb {P : Program} {f : FuncId} {args : Array Value} {W : World} {R : Ending → World → Prop} {p : Addr} {a : Value}
    (h : Calls P f args W R) (hb : ∀ e w', R e w' → Below W.heap.size W w') (hp : W.cell? p = some a) : Calls P f args W fun e w' => R e w' ∧ w'.cell? p = some a :=
  h.mono fun e w' hr => ⟨hr, ((hb e w' hr).cell (World.block_lt_of_cell? W _ hp)).trans hp⟩
theorem keepb2 {P : Program} {f : FuncId} {args : Array Value} {W : World} {R : Ending → World → Prop} {p q : Addr} {a b : Value}
    (h : Calls P f args W R) (hb : ∀ e w', R e w' → Below W.heap.size W w') (hp : W.cell? p = some a) (hq : W.cell? q = some b) : Calls P f args W fun e w' => R e w' ∧ w'.cell? p = some a ∧ w'.cell? q = some b :=
  h.mono fun e w' hr => ⟨hr, ((hb e w' hr).cell (World.block_lt_of_cell? W _ hp)).trans hp, ((hb e w' hr).cell (World.block_lt_of_cell? W _ hq)).trans hq⟩

/-- ascending -/
def Asc (l : List Int) : Prop := l.Pairwise (· < ·)
def AscTo (l : List Int) (k : Nat) : Prop := ∀ j x y, j + 1 < k → l[j]? = some x → l[j + 1]? = some y → x < y
theorem AscTo.start (l : List Int) (k : Nat) (h : k ≤ 1) : AscTo l k := fun j _ _ hj => by omega
theorem AscTo.succ {l : List Int} {k : Nat} (h : AscTo l (k + 1)) (hk : ∀ x y, l[k]? = some x → l[k + 1]? = some y → x < y) : AscTo l (k + 1 + 1) := fun j x y hj hx hy => by
  by_cases e : j = k
  · subst e; exact hk x y hx hy
  · exact h j x y (by omega) hx hy
theorem AscTo.pair {l : List Int} (h : AscTo l l.length) : ∀ (i j : Nat) (a b : Int), i < j → l[i]? = some a → l[j]? = some b → a < b := by
  intro i j a b hij ha hb
  induction j generalizing b with
  | zero => omega
  | succ j ih =>
    have hj : j + 1 < l.length := (List.getElem?_eq_some_iff.1 hb).1
    obtain ⟨d, hd⟩ : ∃ d, l[j]? = some d := ⟨_, List.getElem?_eq_getElem (by omega)⟩
    have h1 := h j d b hj hd hb
    by_cases e : i = j
    · subst e; rw [ha] at hd; cases hd; exact h1
    · have := ih d (by omega) hd; omega
theorem AscTo.asc {l : List Int} (h : AscTo l l.length) : Asc l := by
  unfold Asc
  rw [List.pairwise_iff_getElem]
  intro i j hi hj hij
  exact h.pair i j _ _ hij (List.getElem?_eq_getElem hi) (List.getElem?_eq_getElem hj)
theorem Asc.at_ {l : List Int} (h : Asc l) {i j : Nat} {a b : Int} (hij : i < j) (ha : l[i]? = some a) (hb : l[j]? = some b) : a < b := by
  unfold Asc at h
  rw [List.pairwise_iff_getElem] at h
  have ha' := List.getElem?_eq_some_iff.1 ha
  have hb' := List.getElem?_eq_some_iff.1 hb
  have := h i j ha'.1 hb'.1 hij
  rw [ha'.2, hb'.2] at this
  exact this
theorem Asc.to {l : List Int} (h : Asc l) (k : Nat) : AscTo l k := fun j x y _ hx hy => h.at_ (Nat.lt_succ_self j) hx hy
theorem not_asc {l : List Int} {k : Nat} {x y : Int} (hx : l[k]? = some x) (hy : l[k + 1]? = some y) (h : y ≤ x) : ¬ Asc l := fun ha => by
  have := ha.at_ (Nat.lt_succ_self k) hx hy; omega

/-- a valid Graph and a set of its nodes -/
def SetOk (s : Int) (l : List Ed) (xs : List Int) : Prop := P2.Good s l ∧ (∀ x ∈ xs, 0 ≤ x ∧ x < s) ∧ Asc xs
def RisesIn (xs : List Int) (lo hi : Int) : Prop := (∀ x ∈ xs, lo ≤ x ∧ x ≤ hi) ∧ Asc xs
theorem asc_len {xs : List Int} : ∀ {n : Nat}, Asc xs → (∀ x ∈ xs, 0 ≤ x ∧ x < (n : Int)) → xs.length ≤ n := fun {n} h hx => by
  have hnd : (xs.map Int.toNat).Nodup := by
    rw [List.Nodup, List.pairwise_map]
    refine h.imp_of_mem ?_
    intro a b ha hb hab
    have := hx a ha; have := hx b hb; omega
  have hsub : xs.map Int.toNat ⊆ List.range n := by
    intro a ha
    obtain ⟨j, hj, rfl⟩ := List.mem_map.1 ha
    have := hx j hj
    exact List.mem_range.2 (by omega)
  have := hnd.length_le_of_subset hsub
  simpa using this

set_option maxHeartbeats 1000000 in
theorem hasSet_any (s : Int) (v u : Value) (l : List Ed) (xs : List Int) (w : World) (h : Edges w v l) (hl : l.length ≤ 1048576) (hu : Ints w u xs) (hxl : xs.length ≤ 1048576) :
    Calls Tryd.prog 29 #[.agg #[.int .i64 s, v], u] w fun e w' => e = .returned (.bool (okG (SetOk s l xs))) ∧ Below w.heap.size w w' := by
  have e_w := Below.refl w.heap.size w
  have H := Lib.hid h
  have g0 := Blk.new w 30 #[.int .i64 s, v]
  obtain ⟨A, c, rfl, -⟩ := h.form
  obtain ⟨A2, c2, rfl, hc⟩ := hu.form
  have HU := Lib.hid hu
  have HC := Lib.hid hc
  clear h hu hc
  go_enter Tryd.func29, Tryd.ntmps29
  go_wp2_with fail
  go_loopg [5] xs.length (fun g i wr => ∃ k : Nat, k + g = xs.length ∧ i = .int .i64 ((k : Int) + 1) ∧ Hid (AscTo xs (k + 1)) ∧ Blk wr w.heap.size 30 #[.int .i64 s, .slice A l.length c] ∧ Below w.heap.size w wr)
  case atStart => exact ⟨0, by omega, rfl, AscTo.start _ _ (by omega), g0, (by have hz_ := (e_w).size; have hb_ := e_w; go_grown)⟩
  case round =>
    obtain ⟨k, hkg, rfl, hasc, hgb, hB⟩ := hrel
    obtain ⟨p0, p1, -, -⟩ := hgb.two
    by_cases hlt : k + 1 < xs.length
    · obtain ⟨x, hx⟩ : ∃ x, xs[k]? = some x := ⟨_, List.getElem?_eq_getElem (by omega)⟩
      obtain ⟨y, hy⟩ : ∃ y, xs[k + 1]? = some y := ⟨_, List.getElem?_eq_getElem hlt⟩
      obtain ⟨g, o, rfl, c0⟩ := HC.out k x hx
      obtain ⟨g', o', e', c1⟩ := HC.out (k + 1) y hy
      obtain ⟨rfl, rfl⟩ : g = g' ∧ o = o' := by simpa using e'
      have hlt' : (k : Int) + 1 < (xs.length : Int) := by omega
      have q0 : wr.cell? ⟨g, o + k, none⟩ = some (.int .i64 x) := (hB.cell (p := ⟨g, o + k, none⟩) (World.block_lt_of_cell? w (a := ⟨g, o + k, none⟩) c0)).trans c0
      have q1 : wr.cell? ⟨g, o + (k + 1), none⟩ = some (.int .i64 y) := (hB.cell (p := ⟨g, o + (k + 1), none⟩) (World.block_lt_of_cell? w (a := ⟨g, o + (k + 1), none⟩) c1)).trans c1
      have KK := Lib.hid (fun nq => (⟨hgb, below_drewN hB nq⟩ : Blk (wr.drewN nq) _ _ _ ∧ Below _ _ (wr.drewN nq)))
      have hj1 : IntKind.i64.wrap ((k : Int) + 1 - 1) = (k : Int) := by rw [show (k : Int) + 1 - 1 = (k : Int) from by omega]; exact IntWalk.i64_in _ (by omega)
      have hj1' : IntKind.i64.wrap (k : Int) = (k : Int) := IntWalk.i64_in _ (by omega)
      have hj2 : (0 : Int) ≤ (k : Int) := by omega
      have hj3 : (k : Int) < (xs.length : Int) := by omega
      have hj4 : (0 : Int) ≤ (k : Int) + 1 := by omega
      have hj5 : ((k : Int) + 1).toNat = k + 1 := by omega
      clear c0 c1 e'
      by_cases hxy : x < y
      · have HA := Lib.hid (hasc.out.succ (fun x' y' hx' hy' => by rw [hx] at hx'; rw [hy] at hy'; cases hx'; cases hy'; exact hxy))
        have d1 : decide (y ≤ x) = false := by simp; omega
        clear hx hy
        cases gk with
        | zero => omega
        | succ g2 =>
          go_wp2_with fail
          go_quiet (fail)
          go_wp2_with fail
          go_roundg g2
          case measure => omega
          case rel => exact ⟨k + 1, by omega, by go_num, HA, KK.out _⟩
      · have HN : Hid (¬ SetOk s l xs) := fun hh => not_asc hx hy (by omega) hh.2.2
        have d1 : decide (y ≤ x) = true := by simp; omega
        clear hx hy
        go_wp2_with fail
        go_quiet (fail)
        go_wp2_with fail
        go_ret
        exact ⟨ret_bool (okG_no HN.out).symm, (KK.out _).2⟩
    · have HA : Hid (Asc xs) := by
        apply AscTo.asc
        intro j x y hj hx hy
        exact hasc.out j x y (by omega) hx hy
      have HS := Lib.hid (hasNodes_any s (.slice A l.length c) (.slice A2 xs.length c2) l xs wr (H.out.below hB) hl (HU.out.below hB) hxl)
      have HE : Hid (nodesB s l xs = okG (SetOk s l xs)) := by
        by_cases hn : P2.Good s l ∧ ∀ x ∈ xs, 0 ≤ x ∧ x < s
        · show _ = _
          rw [nodesB_yes hn.1 hn.2, okG_yes ⟨hn.1, hn.2, HA.out⟩]
        · show _ = _
          rw [nodesB_no hn, okG_no (fun h => hn ⟨h.1, h.2.1⟩)]
      have hge : ¬ ((k : Int) + 1 < (xs.length : Int)) := by omega
      go_wp2_with fail
      refine HS.out.mono ?_
      rintro e w1 ⟨rfl, b1⟩
      go_wp2_with fail
      go_ret
      exact ⟨ret_bool HE.out, btrans hB b1⟩

def RisTo (xs : List Int) (lo hi : Int) (k : Nat) : Prop := (∀ j x, j < k → xs[j]? = some x → lo ≤ x ∧ x ≤ hi) ∧ AscTo xs k
theorem RisTo.all {xs : List Int} {lo hi : Int} (h : RisTo xs lo hi xs.length) : RisesIn xs lo hi :=
  ⟨fun x hx => by obtain ⟨j, hj⟩ := List.getElem?_of_mem hx; exact h.1 j x (List.getElem?_eq_some_iff.1 hj).1 hj, h.2.asc⟩
set_option maxHeartbeats 1000000 in
set_option maxRecDepth 100000 in
theorem l1Rising_any (u : Value) (xs : List Int) (lo hi : Int) (w : World) (hu : Ints w u xs) (hxl : xs.length ≤ 1048576) :
    Calls Tryd.prog 36 #[u, .int .i64 lo, .int .i64 hi] w fun e w' => e = .returned (.bool (okG (RisesIn xs lo hi))) ∧ Below w.heap.size w w' := by
  obtain ⟨A2, c2, rfl, hc⟩ := hu.form
  have HC := Lib.hid hc
  clear hu hc
  go_enter Tryd.func36, Tryd.ntmps36
  go_wp2_with fail
  go_loopg [7] xs.length (fun g i wr => ∃ k : Nat, k + g = xs.length ∧ i = .int .i64 (k : Int) ∧ Hid (RisTo xs lo hi k) ∧ Below w.heap.size w wr)
  case atStart => exact ⟨0, by omega, rfl, ⟨fun j x hj => by omega, AscTo.start _ _ (by omega)⟩, Below.refl _ _⟩
  case round =>
    obtain ⟨k, hkg, rfl, hris, hB⟩ := hrel
    cases gk with
    | zero =>
      obtain rfl : k = xs.length := by omega
      have HY := Lib.hid (okG_yes hris.out.all)
      go_wp2_with fail
      go_ret
      exact ⟨ret_bool HY.out.symm, hB⟩
    | succ g2 =>
      have hlt : k < xs.length := by omega
      have hlt' : (k : Int) < (xs.length : Int) := by omega
      obtain ⟨x, hx⟩ : ∃ x, xs[k]? = some x := ⟨_, List.getElem?_eq_getElem hlt⟩
      obtain ⟨g, o, rfl, c0⟩ := HC.out k x hx
      have q0 : wr.cell? ⟨g, o + k, none⟩ = some (.int .i64 x) := (hB.cell (p := ⟨g, o + k, none⟩) (World.block_lt_of_cell? w (a := ⟨g, o + k, none⟩) c0)).trans c0
      clear c0
      by_cases hin : lo ≤ x ∧ x ≤ hi
      · have ia : inB x lo hi = true := by simpa [inB] using hin
        by_cases hk0 : k = 0
        · subst hk0
          rw [Nat.add_zero] at q0
          have HR : Hid (RisTo xs lo hi (0 + 1)) := ⟨fun j y hj hy => by
            obtain rfl : j = 0 := by omega
            rw [hx] at hy; cases hy; exact hin, AscTo.start _ _ (by omega)⟩
          clear hx
          go_wp2_with fail
          go_quiet ((go_at_call 22; exact quiet_left (l1In_any _ _ _ _)))
          go_wp2_with fail
          go_roundg g2
          case measure => omega
          case rel => exact ⟨0 + 1, by omega, by go_num, HR, below_drewN hB _⟩
        · obtain ⟨j, rfl⟩ : ∃ j, k = j + 1 := ⟨k - 1, by omega⟩
          obtain ⟨y, hy⟩ : ∃ y, xs[j]? = some y := ⟨_, List.getElem?_eq_getElem (by omega)⟩
          obtain ⟨g', o', e', c1⟩ := HC.out j y hy
          obtain ⟨rfl, rfl⟩ : g = g' ∧ o = o' := by simpa using e'
          have hj1 : IntKind.i64.wrap ((j : Int) + 1 - 1) = (j : Int) := by rw [show (j : Int) + 1 - 1 = (j : Int) from by omega]; exact IntWalk.i64_in _ (by omega)
          have hj1' : IntKind.i64.wrap (j : Int) = (j : Int) := IntWalk.i64_in _ (by omega)
          have hj2 : (0 : Int) ≤ (j : Int) := by omega
          have hj3 : (j : Int) < (xs.length : Int) := by omega
          have q1 : wr.cell? ⟨g, o + j, none⟩ = some (.int .i64 y) := (hB.cell (p := ⟨g, o + j, none⟩) (World.block_lt_of_cell? w (a := ⟨g, o + j, none⟩) c1)).trans c1
          clear e' c1
          by_cases hyx : y < x
          · have HR : Hid (RisTo xs lo hi (j + 1 + 1)) := ⟨fun i z hi' hz => by
              by_cases e : i = j + 1
              · subst e; rw [hx] at hz; cases hz; exact hin
              · exact hris.out.1 i z (by omega) hz, hris.out.2.succ (fun a b ha hb => by rw [hy] at ha; rw [hx] at hb; cases ha; cases hb; exact hyx)⟩
            have d1 : decide (x ≤ y) = false := by simp; omega
            clear hx hy
            go_wp2_with fail
            go_quiet ((go_at_call 22; exact quiet_left (l1In_any _ _ _ _)))
            go_wp2_with fail
            go_roundg g2
            case measure => omega
            case rel => exact ⟨j + 1 + 1, by omega, by go_num, HR, below_drewN hB _⟩
          · have HN : Hid (¬ RisesIn xs lo hi) := fun hh => not_asc hy hx (by omega) hh.2
            have d1 : decide (x ≤ y) = true := by simp; omega
            clear hx hy
            go_wp2_with fail
            go_quiet ((go_at_call 22; exact quiet_left (l1In_any _ _ _ _)))
            go_wp2_with fail
            go_ret
            exact ⟨ret_bool (okG_no HN.out).symm, below_drewN hB _⟩
      · have ia : inB x lo hi = false := by simpa [inB] using hin
        have HN : Hid (¬ RisesIn xs lo hi) := fun hh => hin (hh.1 x (List.mem_of_getElem? hx))
        clear hx
        go_wp2_with fail
        go_quiet ((go_at_call 22; exact quiet_left (l1In_any _ _ _ _)))
        go_wp2_with fail
        go_ret
        exact ⟨ret_bool (okG_no HN.out).symm, below_drewN hB _⟩
theorem l2Set_any (s : Int) (v u : Value) (l : List Ed) (xs : List Int) (w : World) (hu : Ints w u xs) (hxl : xs.length ≤ 1048576) (h0 : 0 ≤ s) (h8 : s ≤ 8) :
    Calls Tryd.prog 24 #[.agg #[.int .i64 s, v], u] w fun e w' => e = .returned (.bool (okG (RisesIn xs 0 (s - 1)))) ∧ Below w.heap.size w w' := by
  have e_w := Below.refl w.heap.size w
  have b0 : Below w.heap.size w (w.alloc (.cells #[.int .i64 s, v] 30)) := (by have hz_ := (e_w).size; have hb_ := e_w; go_grown)
  obtain ⟨A2, c2, rfl, -⟩ := hu.form
  have HR := Lib.hid (l1Rising_any (.slice A2 xs.length c2) xs 0 (s - 1) _ (hu.below b0) hxl)
  clear hu
  go_enter Tryd.func24, Tryd.ntmps24
  go_wp2_with fail
  refine HR.out.mono ?_
  rintro e w1 ⟨rfl, b1⟩
  go_wp2_with fail
  go_ret
  exact ⟨rfl, btrans b0 b1⟩
theorem setOk_iff {s : Int} {l : List Ed} {xs : List Int} (h : P2.Good s l) : RisesIn xs 0 (s - 1) ↔ SetOk s l xs :=
  ⟨fun ⟨h1, h2⟩ => ⟨h, fun x hx => by have := h1 x hx; omega, h2⟩, fun ⟨_, h1, h2⟩ => ⟨fun x hx => by have := h1 x hx; omega, h2⟩⟩

def bitB (c k : Nat) : Bool := c.testBit k
theorem i64_and1 (n : Int) : bits .and .i64 n 1 = n % 2 := by
  have h1 : (BitVec.ofInt 64 1).toNat = 2 ^ 1 - 1 := by decide
  have key : (BitVec.ofInt 64 n &&& BitVec.ofInt 64 1).toNat = (n % ((2 ^ 64 : Nat) : Int)).toNat % 2 ^ 1 := by
    rw [BitVec.toNat_and, BitVec.toNat_ofInt, h1, Nat.and_two_pow_sub_one_eq_mod]
  show IntKind.i64.wrap ((BitVec.ofInt 64 n &&& BitVec.ofInt 64 1).toNat : Nat) = n % 2
  rw [key, IntKind.wrap_i64]
  omega
theorem bit_walk (c k : Nat) : (bits BinOp.and IntKind.i64 ((c : Int) / 2 ^ k) 1 == 1) = bitB c k := by
  rw [i64_and1]
  unfold bitB
  rw [Nat.testBit_eq_decide_div_mod_eq, Bool.eq_iff_iff, beq_iff_eq, decide_eq_true_iff]
  have : ((c : Int) / 2 ^ k) = ((c / 2 ^ k : Nat) : Int) := by simp
  rw [this]
  omega


theorem nw_all (n : Nat) (p : Nat → Bool) (h : ∀ k, k < n → p k = true) : nw p n = (List.range n).map fun x : Nat => (x : Int) := by
  unfold nw
  rw [List.filter_eq_self.2 (fun k hk => h k (List.mem_range.1 hk))]
def allN (n : Nat) : List Int := (List.range n).map fun x : Nat => (x : Int)
theorem allN_len (n : Nat) : (allN n).length = n := by simp [allN]
theorem mem_allN {n : Nat} {x : Int} : x ∈ allN n ↔ 0 ≤ x ∧ x < n := by
  simp only [allN, List.mem_map, List.mem_range]
  constructor
  · rintro ⟨k, hk, rfl⟩; omega
  · intro h; exact ⟨x.toNat, by omega, by omega⟩
theorem bits_all (n : Nat) : nw (bitB (2 ^ n - 1)) n = allN n := nw_all n _ fun k hk => by
  unfold bitB
  rw [Nat.testBit_two_pow_sub_one]
  simpa using hk
end Go.Proofs.YthgahkkjdpljjaaDoor.sets
