/- Guards: the contract of the program's holds. -/
import Derived.Handy
import Derived.Test.YthpodbhiopnnbaaDoorK17
import Derived.Test.YthpodbhiopnnbaaDoorK22
import Derived.Deep.DeepCutAuto
import Derived.Deep.RegionHeld3
import Derived.Deep.QuietTactic
import Derived.Test.YthpodbhiopnnbaaDoorK16
import Derived.Test.YthpodbhiopnnbaaDoorK01
import Derived.Maps.OwnSet
import Derived.Maps.OwnOps
import Derived.Maps.Views
import Derived.Test.YthpodbhiopnnbaaDoorK04
import Derived.Test.YthpodbhiopnnbaaDoorK11
namespace Go.Proofs.YthpodbhiopnnbaaDoor.ups
open Go.RowKit P2 words edges ints good adjs fns sets rets covs bags bitsI func lists least
set_option linter.unusedVariables false

set_option maxHeartbeats 2000000 in
set_option maxRecDepth 100000 in
theorem holdsClo_any (n a b x : Nat) (b1 b2 b3 : Nat) (all : Bool) (vc vs : Value) (l : List Ed) (w : World) (h1 : Blk w b1 74 #[vc, .func (.func (ruleF all)) #[] #[], vs]) (h2 : w.cell? ⟨b2, 0, none⟩ = some (.int .u64 (a : Int))) (h3 : w.cell? ⟨b3, 0, none⟩ = some (.int .i64 (x : Int))) (hE : Env w) (hc : Nums w vc (clos l n)) (hg : P2.Good (n : Int) l) (hn : n ≤ 8) (ha : a < 2 ^ n) (hb : b < 2 ^ n) (hx : x ≤ 8) :
    Calls Tryd.prog 99 #[.int .u64 (b : Int), .pointer (some ⟨b1, 0, none⟩), .pointer (some ⟨b2, 0, none⟩), .pointer (some ⟨b3, 0, none⟩)] w fun e w' => e = .returned (.bool (ansB l all x a b)) ∧ Below w.heap.size w w' := by
  obtain ⟨p0, p1, p2⟩ := blkW h1
  have HI := Lib.hid (isAnswer_any n a b x all vc vs l w hE hc hg hn ha hb hx)
  unfold watV at HI
  clear hE hc hg h1
  go_enter Tryd.func99, Tryd.ntmps99
  go_wp2_with fail
  refine HI.out.mono ?_
  rintro e w1 ⟨rfl, b1⟩
  go_wp2_with fail
  go_ret
  exact ⟨rfl, b1⟩
set_option maxHeartbeats 8000000 in
set_option maxRecDepth 100000 in
theorem holds_any (n a : Nat) (all : Bool) (vc vs : Value) (L : List Nat) (l : List Ed) (w : World) (hE : Env w) (hc : Nums w vc (clos l n)) (hs : Nums w vs L) (hL : ∀ c ∈ L, c < 2 ^ n) (hLl : L.length ≤ 1048576) (hg : P2.Good (n : Int) l) (hn : n ≤ 8) (ha : a < 2 ^ n) :
    Calls Tryd.prog 70 #[watV all vc vs, .int .u64 (a : Int)] w fun e w' => e = .returned (.bool (holdB n l all L a)) ∧ Below w.heap.size w w' := by
  have hmf : ∀ (fn : Fn) (first cap : Array Value) (w : World), (Instr.makeFunc fn first cap).run Tryd.prog w = .ok (.func fn first cap) w := fun _ _ _ _ => rfl
  obtain ⟨A3, c3, rfl, -⟩ := hc.form
  have hlen := clos_len l n
  obtain ⟨W0, hW0⟩ : ∃ W0, W0 = (w.alloc (.cells #[.slice A3 n c3, .func (.func (ruleF all)) #[] #[], vs] 74)).alloc (.cells #[.int .u64 (a : Int)] 64) := ⟨_, rfl⟩
  have b0 : Below w.heap.size w W0 := by rw [hW0]; exact ((Below.refl _ _).alloc (Nat.le_refl _) _).alloc (by simp) _
  have g1 : Blk W0 w.heap.size 74 #[.slice A3 n c3, .func (.func (ruleF all)) #[] #[], vs] := by rw [hW0]; exact (Blk.new w 74 #[.slice A3 n c3, .func (.func (ruleF all)) #[] #[], vs]).alloc _
  have g2 : Blk W0 (w.heap.size + 1) 64 #[.int .u64 (a : Int)] := by
    have h_ := Blk.new (w.alloc (.cells #[.slice A3 n c3, .func (.func (ruleF all)) #[] #[], vs] 74)) 64 #[.int .u64 (a : Int)]
    rw [World.size_alloc] at h_
    rw [hW0]; exact h_
  have HC : Hid (∀ W, Below w.heap.size w W → Nums W (.slice A3 n c3) (clos l n)) := fun W hW => by
    have h_ := hc.below hW
    unfold Nums at h_ ⊢
    rw [hlen] at h_ ⊢
    exact h_
  have HS := Lib.hid hs
  have HEN := Lib.hid hE
  have HLM := Lib.hid hL
  have HGD := Lib.hid hg
  have HB0 := Lib.hid b0
  have HG1 := Lib.hid g1
  have HG2 := Lib.hid g2
  have HW0 := Lib.hid hW0
  have HK0 : Hid ((List.range 0).all (fun x => a.testBit x || L.any (ansB l all x a)) = true) := rfl
  have HV : Hid (holdB n l all L a = (List.range n).all (fun x => a.testBit x || L.any (ansB l all x a))) := rfl
  have hsuc : ∀ k, (List.range (k + 1)).all (fun x => a.testBit x || L.any (ansB l all x a)) = ((List.range k).all (fun x => a.testBit x || L.any (ansB l all x a)) && (a.testBit k || L.any (ansB l all k a))) := fun k => by
    rw [List.range_succ, List.all_append]; simp
  have HSU := Lib.hid hsuc
  have HNO : Hid (∀ k, k < n → (a.testBit k || L.any (ansB l all k a)) = false → holdB n l all L a = false) := fun k hk h => by
    show (List.range n).all _ = false
    rw [List.all_eq_false]
    exact ⟨k, List.mem_range.2 hk, by rw [h]; decide⟩
  have ha8 := Nat.lt_of_lt_of_le ha (pow_le hn)
  obtain ⟨p0, p1, p2⟩ := blkW g1
  have q0 := g2.cell 0
  rw [hW0] at p0 p1 p2 q0
  unfold watV
  rw [hlen]
  clear hE hc hs hL hg b0 g1 g2 hW0 hsuc hlen
  go_enter Tryd.func70, Tryd.ntmps70
  go_wp2_with fail
  rw [← HW0.out]
  clear p0 p1 p2 q0
  go_loopg [10] n (fun g iv wr => ∃ k : Nat, k + g = n ∧ iv = .int .i64 (k : Int) ∧ Hid ((List.range k).all (fun x => a.testBit x || L.any (ansB l all x a)) = true) ∧ Blk wr w.heap.size 74 #[.slice A3 n c3, .func (.func (ruleF all)) #[] #[], vs] ∧ Blk wr (w.heap.size + 1) 64 #[.int .u64 (a : Int)] ∧ Below w.heap.size w wr)
  case atStart => exact ⟨0, by omega, rfl, HK0, HG1.out, HG2.out, HB0.out⟩
  case round =>
    clear HK0 HG1 HG2 HB0
    obtain ⟨k, hkg, rfl, hal, hg1, hg2, hB⟩ := hrel
    obtain ⟨p0, p1, p2⟩ := blkW hg1
    have q0 := hg2.cell 0
    have HB := Lib.hid hB
    cases gk with
    | zero =>
      obtain rfl : k = n := by omega
      have HV2 : Hid (holdB k l all L a = true) := hal.out
      clear hg1 hg2 hB
      go_wp2_with fail
      go_ret
      rw [HV2.out]
      exact ⟨rfl, HB.out⟩
    | succ g2_ =>
      have hlt : k < n := by omega
      have hlt' : (k : Int) < (n : Int) := by omega
      obtain ⟨W1, hW1⟩ : ∃ W1, W1 = wr.alloc (.cells #[.int .i64 (k : Int)] 3) := ⟨_, rfl⟩
      have d1 : Below wr.heap.size wr W1 := by rw [hW1]; exact (Below.refl _ _).alloc (Nat.le_refl _) _
      have HB1 := Lib.hid (btrans hB d1)
      have HG1 := Lib.hid (hg1.below d1 hg1.lt)
      have HG2 := Lib.hid (hg2.below d1 hg2.lt)
      have HG3 : Hid (Blk W1 wr.heap.size 3 #[.int .i64 (k : Int)]) := by show Blk _ _ _ _; rw [hW1]; exact Blk.new wr _ _
      obtain ⟨r0, r1, r2⟩ := blkW HG1.out
      have s0 := HG2.out.cell 0
      have s1 := HG3.out.cell 0
      have HH := Lib.hid (fun (W : World) => has_any a k W (by omega) (by omega))
      have HCF := Lib.hid (containsUU_any vs L 99 #[.pointer (some ⟨w.heap.size, 0, none⟩), .pointer (some ⟨w.heap.size + 1, 0, none⟩), .pointer (some ⟨wr.heap.size, 0, none⟩)] (ansB l all k a) W1 (HS.out.below HB1.out) hLl
        { enter := fun _ _ => by kernel_rfl
          call := fun W hW b hb => holdsClo_any n a b k w.heap.size (w.heap.size + 1) wr.heap.size all (.slice A3 n c3) vs l W (HG1.out.below hW HG1.out.lt) ((HG2.out.below hW HG2.out.lt).cell 0) ((HG3.out.below hW HG3.out.lt).cell 0) (HEN.out.next (btrans HB1.out hW)) (HC.out W (btrans HB1.out hW)) HGD.out hn ha (HLM.out b hb) (by omega) })
      have HW1 := Lib.hid hW1
      rw [hW1] at r0 r1 r2 s0 s1
      have hsk := HSU.out k
      rw [hal.out, Bool.true_and] at hsk
      have HSK := Lib.hid hsk
      clear hg1 hg2 hB d1 hW1 hsk p1
      cases hb1 : a.testBit k with
      | true =>
        have HK : Hid ((List.range (k + 1)).all (fun x => a.testBit x || L.any (ansB l all x a)) = true) := by show _ = _; rw [HSK.out, hb1]; rfl
        rw [hb1] at HH
        clear hb1
        go_wp2_with fail
        refine (HH.out _).mono ?_
        rintro e w' ⟨rfl, rfl⟩
        go_wp2_with fail
        rw [← HW1.out]
        clear p0 p2 q0 r0 r1 r2 s0 s1
        go_roundg g2_
        case measure => omega
        case rel => exact ⟨k + 1, by omega, by go_num, HK, HG1.out, HG2.out, HB1.out⟩
      | false =>
        rw [hb1] at HH
        cases hb2 : L.any (ansB l all k a) with
        | true =>
          have HK : Hid ((List.range (k + 1)).all (fun x => a.testBit x || L.any (ansB l all x a)) = true) := by show _ = _; rw [HSK.out, hb1, hb2]; rfl
          rw [hb2] at HCF
          clear hb1 hb2
          go_wp2_with fail
          refine (HH.out _).mono ?_
          rintro e w' ⟨rfl, rfl⟩
          go_wp2_with fail
          rw [← HW1.out]
          refine HCF.out.mono ?_
          rintro e w2 ⟨rfl, b2⟩
          have HB2 := Lib.hid (btrans HB1.out b2)
          have HG1b := Lib.hid (HG1.out.below b2 HG1.out.lt)
          have HG2b := Lib.hid (HG2.out.below b2 HG2.out.lt)
          clear p0 p2 q0 r0 r1 r2 s0 s1 b2
          go_wp2_with fail
          go_roundg g2_
          case measure => omega
          case rel => exact ⟨k + 1, by omega, by go_num, HK, HG1b.out, HG2b.out, HB2.out⟩
        | false =>
          have HF := Lib.hid (HNO.out k hlt (by rw [hb1, hb2]; rfl))
          rw [hb2] at HCF
          clear hb1 hb2
          go_wp2_with fail
          refine (HH.out _).mono ?_
          rintro e w' ⟨rfl, rfl⟩
          go_wp2_with fail
          rw [← HW1.out]
          refine HCF.out.mono ?_
          rintro e w2 ⟨rfl, b2⟩
          clear p0 p2 q0 r0 r1 r2 s0 s1
          go_wp2_with fail
          first | go_ret | (rw [Exit.noGoto_ret]; go_ret)
          rw [HF.out]
          exact ⟨rfl, btrans HB1.out b2⟩
end Go.Proofs.YthpodbhiopnnbaaDoor.ups

/- Guards: the contract of the program's resistances. -/
namespace Go.Proofs.YthpodbhiopnnbaaDoor.ups
open Go.RowKit Go.Maps P2 words edges ints good adjs fns sets rets covs bags bitsI func lists least near
set_option linter.unusedVariables false

theorem lawU : Keyed Tryd.prog 64 := int_keyed Tryd.underlying64
theorem wfU {a : Nat} (h : a < 256) : (Lit.int .u64 (a : Int)).wf = true := by
  show (decide ((0 : Int) ≤ (a : Int)) && decide ((a : Int) ≤ (18446744073709551615 : Int))) = true
  rw [Bool.and_eq_true, decide_eq_true_iff, decide_eq_true_iff]
  omega
theorem ukey {a : Nat} (h : a < 256) : keyOf Tryd.prog 64 (.int .u64 (a : Int)) = some (.int .u64 (a : Int)) := keyOf_int_mk Tryd.underlying64 (wfU h)
/-- what a table says of a set -/
def AtU (D : DataW Unit) (a : Nat) (v : Int) : Prop := D.atKey (.int .u64 (a : Int)) (.lit (.int .i64 0)) = .lit (.int .i64 v)
theorem AtU.same {D : DataW Unit} {a : Nat} (hD : IsMap D) (ha : a < 256) (v : Int) : AtU (D.put (.int .u64 (a : Int)) (.lit (.int .i64 v))) a v :=
  atKey_put_same hD (lawU.key (ukey ha)) _ _
theorem AtU.other {D : DataW Unit} {a c : Nat} {v u : Int} (h : AtU D a v) (hne : a ≠ c) : AtU (D.put (.int .u64 (c : Int)) (.lit (.int .i64 u))) a v := by
  unfold AtU
  rw [atKey_put_other (fun e => hne (by have := (Lit.int.injEq _ _ _ _ ▸ e); simp at e; omega))]
  exact h
/-- a row of words that is given, or the call's own -/
def RowAt (w wr : World) (v : Value) (U : List Nat) : Prop := (Nums w v U ∧ Below w.heap.size w wr) ∨ (wr.ownsRow w.heap.size 64 1 v U.length (cellsU U) ∧ Below w.heap.size w wr)
theorem RowAt.nums {w wr : World} {v : Value} {U : List Nat} (h : RowAt w wr v U) : Nums wr v U := by
  rcases h with ⟨h, hb⟩ | ⟨h, _⟩
  · exact h.below hb
  · exact Reads.of_own h
theorem RowAt.below {w wr wx : World} {v : Value} {U : List Nat} (h : RowAt w wr v U) (hb : Below wr.heap.size wr wx) : RowAt w wx v U := by
  rcases h with ⟨h, h2⟩ | ⟨h, h2⟩
  · exact .inl ⟨h, btrans h2 hb⟩
  · exact .inr ⟨own_below h hb, btrans h2 hb⟩
theorem own_map {w : World} {B b k : Nat} {v : Value} {xs : List Value} {n : Nat} {D : DataW Unit} (h : w.ownsRow B 64 1 v n xs) (hm : w.ownsMap Tryd.prog 64 (plainElem Tryd.prog 3) b k D) : v.ownBlock = none ∨ v.ownBlock ≠ some b := by
  rcases h.2 with ⟨rfl, _⟩ | ⟨g, cap, cur, rfl, _, hg, _⟩
  · exact .inl rfl
  · refine .inr fun e => ?_
    obtain ⟨es, clock, he, _⟩ := hm
    have : g = b := by simpa [Value.ownBlock] using e
    subst this
    rw [hg] at he
    cases he
theorem RowAt.mapped {w wr wx : World} {v : Value} {U : List Nat} {b k : Nat} {D : DataW Unit} (h : RowAt w wr v U) (hm : wr.ownsMap Tryd.prog 64 (plainElem Tryd.prog 3) b k D) (hb : w.heap.size ≤ b) (hg : wr.grownBy wx (some b)) : RowAt w wx v U := by
  have hx : ∀ {h2 : Below w.heap.size w wr}, Below w.heap.size w wx := fun {h2} => h2.grown hg h2.size (fun j e => by
    have : b = j := by simpa using e
    omega)
  rcases h with ⟨h, h2⟩ | ⟨h, h2⟩
  · exact .inl ⟨h, hx (h2 := h2)⟩
  · exact .inr ⟨h.kept hg (own_map h hm), hx (h2 := h2)⟩
/-- what the program's table says in the end -/
noncomputable def resP (n : Nat) (l : List Ed) (all : Bool) (L : List Nat) (a : Nat) : Int := if resV n l all L a < 0 then 9223372036854775807 else resV n l all L a
/-- the table before round t -/
def TabT (n : Nat) (l : List Ed) (all : Bool) (L : List Nat) (t : Nat) (D : DataW Unit) : Prop := ∀ a s, s < t → Dep n l all L a s → AtU D a (s : Int)
theorem TabT.done {n : Nat} {l : List Ed} {all : Bool} {L : List Nat} {t : Nat} {D : DataW Unit} (h : TabT n l all L t D) (hj : ∀ a ∈ usN n l all L t, AtU D a (t : Int)) : TabT n l all L (t + 1) D := fun a s hs hd => by
  by_cases e : s = t
  · subst e; exact hj a hd.1
  · exact h a s (by omega) hd
theorem TabT.put {n : Nat} {l : List Ed} {all : Bool} {L : List Nat} {t c : Nat} {u : Int} {D : DataW Unit} (h : TabT n l all L t D) (hc : c ∈ usN n l all L t) : TabT n l all L t (D.put (.int .u64 (c : Int)) (.lit (.int .i64 u))) := fun a s hs hd =>
  (h a s hs hd).other fun e => by
    subst e
    exact hd.2 (us_sub (t := s + 1) (d := t - (s + 1)) (by rw [show s + 1 + (t - (s + 1)) = t from by omega]; exact hc))
theorem first_put {U : List Nat} {j c : Nat} {u : Int} {D : DataW Unit} (hD : IsMap D) (h : ∀ a ∈ U.take j, AtU D a u) (hc : U[j]? = some c) (hc8 : c < 256) : ∀ a ∈ U.take (j + 1), AtU (D.put (.int .u64 (c : Int)) (.lit (.int .i64 u))) a u := fun a ha => by
  rw [List.take_add_one, hc, List.mem_append] at ha
  by_cases e : a = c
  · subst e; exact AtU.same hD hc8 u
  · rcases ha with ha | ha
    · exact (h a ha).other e
    · exact absurd (by simpa using ha) e
theorem tab_end {n : Nat} {l : List Ed} {all : Bool} {L : List Nat} {t : Nat} {D : DataW Unit} (hs : usN n l all L (t + 1) = usN n l all L t) (h : TabT n l all L t D) (hj : ∀ a ∈ usN n l all L t, AtU D a 9223372036854775807) : ∀ a ∈ L, AtU D a (resP n l all L a) := fun a ha => by
  unfold resP
  by_cases hin : a ∈ usN n l all L t
  · rw [resV_in hs hin]
    exact hj a hin
  · have hex : ∃ s, s < t ∧ Dep n l all L a s := by
      clear h hj hs
      induction t with
      | zero => exact absurd ha hin
      | succ t ih =>
        by_cases h2 : a ∈ usN n l all L t
        · exact ⟨t, Nat.lt_succ_self t, h2, hin⟩
        · obtain ⟨s, h3, h4⟩ := ih h2
          exact ⟨s, by omega, h4⟩
    obtain ⟨s, hst, hd⟩ := hex
    rw [resV_dep hd, if_neg (by omega)]
    exact h a s hst hd
set_option maxHeartbeats 2000000 in
set_option maxRecDepth 100000 in
theorem resClo_any (n a b1 : Nat) (all : Bool) (vc vs : Value) (L : List Nat) (l : List Ed) (w : World) (h1 : Blk w b1 74 #[vc, .func (.func (ruleF all)) #[] #[], vs]) (hE : Env w) (hc : Nums w vc (clos l n)) (hs : Nums w vs L) (hL : ∀ c ∈ L, c < 2 ^ n) (hLl : L.length ≤ 1048576) (hg : P2.Good (n : Int) l) (hn : n ≤ 8) (ha : a < 2 ^ n) :
    Calls Tryd.prog 94 #[.int .u64 (a : Int), .pointer (some ⟨b1, 0, none⟩)] w fun e w' => e = .returned (.bool (!holdB n l all L a)) ∧ Below w.heap.size w w' := by
  obtain ⟨p0, p1, p2⟩ := blkW h1
  have HI := Lib.hid (holds_any n a all vc vs L l w hE hc hs hL hLl hg hn ha)
  unfold watV at HI
  clear hE hc hs hL hg h1
  go_enter Tryd.func94, Tryd.ntmps94
  go_wp2_with fail
  refine HI.out.mono ?_
  rintro e w1 ⟨rfl, b1⟩
  go_wp2_with fail
  go_ret
  exact ⟨rfl, b1⟩
theorem RowAt.boxed {w wr : World} {v x : Value} {U : List Nat} {R i : Nat} {cs : Array Value} (h : RowAt w wr v U) (hb : Blk wr R 74 cs) (hR : w.heap.size ≤ R) : RowAt w (wr.setCell ⟨R, i, none⟩ x) v U := by
  rcases h with ⟨h, h2⟩ | ⟨h, h2⟩
  · exact .inl ⟨h, h2.setCell (p := ⟨R, i, none⟩) hR x⟩
  · exact .inr ⟨h.kept (gset (World.grownBy.refl wr (some R)) i x) (.inr (mids.own_ne h hb (by decide))), h2.setCell (p := ⟨R, i, none⟩) hR x⟩
theorem blk_map {w w' : World} {R b : Nat} {cs : Array Value} {t : TypeId} (hb : Blk w R t cs) (hg : w.grownBy w' (some b)) (hne : R ≠ b) : Blk w' R t cs := hb.grown hg (by simpa using hne)
set_option maxHeartbeats 8000000 in
set_option maxRecDepth 100000 in
theorem resistances_any (n : Nat) (all : Bool) (vc vs : Value) (L : List Nat) (l : List Ed) (w : World) (hE : Env w) (hc : Nums w vc (clos l n)) (hs : Nums w vs L) (hL : ∀ c ∈ L, c < 2 ^ n) (hLl : L.length ≤ 256) (hg : P2.Good (n : Int) l) (hn : n ≤ 8) :
    Calls Tryd.prog 58 #[watV all vc vs] w fun e w' => ∃ b k D, e = .returned (.map (some b)) ∧ w.heap.size ≤ b ∧ w'.ownsMap Tryd.prog 64 (plainElem Tryd.prog 3) b k (D : DataW Unit) ∧ (∀ a ∈ L, AtU D a (resP n l all L a)) ∧ Below w.heap.size w w' := by
  have hmf : ∀ (fn : Fn) (first cap : Array Value) (w : World), (Instr.makeFunc fn first cap).run Tryd.prog w = .ok (.func fn first cap) w := fun _ _ _ _ => rfl
  have hmm := @run_makeMap Tryd.prog
  obtain ⟨As, cs, rfl, -⟩ := hs.form
  obtain ⟨W0, hW0⟩ : ∃ W0, W0 = (w.alloc (.cells #[vc, .func (.func (ruleF all)) #[] #[], .slice As L.length cs] 74)).alloc (.map #[] 0) := ⟨_, rfl⟩
  have b0 : Below w.heap.size w W0 := by rw [hW0]; exact ((Below.refl _ _).alloc (Nat.le_refl _) _).alloc (by simp) _
  have g1 : Blk W0 w.heap.size 74 #[vc, .func (.func (ruleF all)) #[] #[], .slice As L.length cs] := by rw [hW0]; exact (Blk.new w 74 #[vc, .func (.func (ruleF all)) #[] #[], .slice As L.length cs]).alloc _
  have M0 : W0.ownsMap Tryd.prog 64 (plainElem Tryd.prog 3) (w.heap.size + 1) 0 (.map [] : DataW Unit) := by
    have h_ := World.ownsMap_made (H := Unit) (w.alloc (.cells #[vc, .func (.func (ruleF all)) #[] #[], .slice As L.length cs] 74)) Tryd.prog 64 (plainElem Tryd.prog 3)
    rw [World.size_alloc] at h_
    rw [hW0]; exact h_
  have HC := Lib.hid hc
  have HEN := Lib.hid hE
  have HGD := Lib.hid hg
  have HLM := Lib.hid hL
  have HR0 : Hid (RowAt w W0 (.slice As L.length cs) (usN n l all L 0)) := .inl ⟨hs, b0⟩
  have HB0 := Lib.hid b0
  have HG1 := Lib.hid g1
  have HM0 := Lib.hid M0
  have HW0 := Lib.hid hW0
  have HUM : Hid (∀ t, ∀ c ∈ usN n l all L t, c < 2 ^ n) := fun t c h => hL c (us_mem h)
  have HUL : Hid (∀ t, (usN n l all L t).length ≤ 256) := fun t => by
    induction t with
    | zero => exact hLl
    | succ t ih => exact Nat.le_trans (us_len t) ih
  have HG0 : Hid (Goes n l all L 0 ∧ TabT n l all L 0 (.map [])) := ⟨Goes.zero n l all L, fun a s h => by omega⟩
  have HPW := Lib.hid (pow_le hn)
  have HUF : Hid (∀ t, (usN n l all L t).filter (fun x => !!holdB n l all (usN n l all L t) x) = usN n l all L (t + 1)) := fun t => by
    show _ = (usN n l all L t).filter _
    congr 1; funext x; rw [Bool.not_not]
  obtain ⟨p0, p1, p2⟩ := blkW g1
  rw [hW0] at p0 p1 p2
  have HL0 : Hid (L.length = (usN n l all L 0).length) := rfl
  unfold watV
  clear hE hc hs hL hg b0 g1 M0 hW0
  go_enter Tryd.func58, Tryd.ntmps58
  go_wp2_with fail
  rw [← HW0.out]
  clear p0 p1 p2
  go_loopg [4] (L.length + 1) (fun g tv wr => ∃ (t k : Nat) (D : DataW Unit) (At : Option Addr) (ct : Nat), t + g = L.length + 1 ∧ tv = .int .i64 (t : Int) ∧ Hid (Goes n l all L t ∧ TabT n l all L t D) ∧ k ≤ t * 256 ∧ Blk wr w.heap.size 74 #[vc, .func (.func (ruleF all)) #[] #[], .slice At (usN n l all L t).length ct] ∧ Hid (RowAt w wr (.slice At (usN n l all L t).length ct) (usN n l all L t)) ∧ wr.ownsMap Tryd.prog 64 (plainElem Tryd.prog 3) (w.heap.size + 1) k D ∧ Below w.heap.size w wr)
  case atStart => exact ⟨0, 0, _, As, cs, by omega, rfl, HG0, by omega, HG1.out, HR0, HM0.out, HB0.out⟩
  case round =>
    clear HG0 HG1 HR0 HM0 HB0
    obtain ⟨t, k, D, At, ct, htg, rfl, hgo, hk, hgb, hra, hmp, hB⟩ := hrel
    obtain ⟨p0, p1, p2⟩ := blkW hgb
    have HB := Lib.hid hB
    have HG := Lib.hid hgb
    have HM := Lib.hid hmp
    have hul := HUL.out t
    have htl : t ≤ L.length := by have := hgo.out.1; unfold Goes at this; omega
    obtain ⟨g2, rfl⟩ : ∃ g2, gk = g2 + 1 := ⟨gk - 1, by omega⟩
    have HCL := Lib.hid (cloneC_any (.slice At (usN n l all L t).length ct) (usN n l all L t) wr hra.out.nums (by omega))
    have HDEL := Lib.hid (fun (A2 : Option Addr) (c2 : Nat) (w2 : World) (o2 : w2.ownsRow wr.heap.size 64 1 (.slice A2 (usN n l all L t).length c2) (usN n l all L t).length (cellsU (usN n l all L t))) (b2 : Below wr.heap.size wr w2) =>
      deleteFuncU_own wr.heap.size (.slice A2 (usN n l all L t).length c2) (usN n l all L t) 94 #[.pointer (some ⟨w.heap.size, 0, none⟩)] (fun x => !holdB n l all (usN n l all L t) x) (fun W => Below wr.heap.size wr W) w2 o2 (by omega)
      { go := fun W W' h1 h2 => h1.trans (h2.mono h1.size)
        set := fun g hg W j u h => h.setCell (p := ⟨g, j, none⟩) (o2.lt g hg).1 u }
      { enter := fun _ _ => by kernel_rfl
        call := fun W hW a ha => resClo_any n a w.heap.size all vc (.slice At (usN n l all L t).length ct) (usN n l all L t) l W (HG.out.below hW HG.out.lt) (HEN.out.next (btrans HB.out hW)) (HC.out.below (btrans HB.out hW)) ((hra.out.below hW).nums) (HUM.out t) (by omega) HGD.out hn (HUM.out t a ha) } b2)
    rw [HUF.out t] at HDEL
    have hun := us_len (n := n) (l := l) (all := all) (L := L) t
    have HFX := Lib.hid (us_fix (n := n) (l := l) (all := all) (L := L) (t := t))
    have HUMt := Lib.hid (HUM.out t)
    have HTE := Lib.hid (fun (D : DataW Unit) (hs : usN n l all L (t + 1) = usN n l all L t) => tab_end (D := D) hs)
    have HGN := Lib.hid (hgo.out.1.next)
    have HDN := Lib.hid (fun (D : DataW Unit) => TabT.done (n := n) (l := l) (all := all) (L := L) (t := t) (D := D))
    have HPT := Lib.hid (fun (c : Nat) (u : Int) (D : DataW Unit) => TabT.put (n := n) (l := l) (all := all) (L := L) (t := t) (c := c) (u := u) (D := D))
    generalize usN n l all L t = U at *
    generalize hVE : usN n l all L (t + 1) = V at *
    have HVE := Lib.hid hVE
    clear hVE
    clear hgb hmp
    go_wp2_with fail
    refine HCL.out.mono ?_
    rintro e w2 ⟨A2, c2, rfl, o2, b2⟩
    have HD2 := Lib.hid (HDEL.out A2 c2 w2 o2 b2)
    have HG2 := Lib.hid (HG.out.below b2 HG.out.lt)
    clear p0 p1 p2 o2 b2
    obtain ⟨p0, p1, p2⟩ := blkW HG2.out
    go_wp2_with fail
    refine HD2.out.mono ?_
    rintro e w3 ⟨A3, c3, rfl, o3, -, hk3⟩
    have HG3 := Lib.hid (HG.out.below hk3 HG.out.lt)
    have HB3 := Lib.hid (btrans HB.out hk3)
    have HM3 : Hid (w3.ownsMap Tryd.prog 64 (plainElem Tryd.prog 3) (w.heap.size + 1) k D) := HM.out.kept (row := none) (gof hk3 none) (by simp)
    have HRU := Lib.hid (hra.out.below hk3)
    have HRV : Hid (RowAt w w3 (.slice A3 V.length c3) V) := .inr ⟨own_base o3 HB.out.size, HB3.out⟩
    clear p0 p1 p2 o3 hk3
    obtain ⟨p0, p1, p2⟩ := blkW HG3.out
    by_cases hlen : V.length = U.length
    · have HVU := Lib.hid (HFX.out hlen)
      have hq1 : ((V.length : Int) == (U.length : Int)) = true := by rw [hlen]; simp
      have hq2 : (V.length == U.length) = true := by rw [hlen]; simp
      clear hlen
      go_wp2_with fail
      have HTT : Hid (TabT n l all L t D ∧ ∀ a ∈ U.take 0, AtU D a 9223372036854775807) := ⟨hgo.out.2, fun a ha => by simp at ha⟩
      clear p0 p1 p2 hgo
      go_loopg [9, 40] U.length (fun g _ iv wr => ∃ (j k2 : Nat) (D2 : DataW Unit), j + g = U.length ∧ iv = .int .i64 (j : Int) ∧ Hid (TabT n l all L t D2 ∧ ∀ a ∈ U.take j, AtU D2 a 9223372036854775807) ∧ k2 ≤ k + j ∧ wr.ownsMap Tryd.prog 64 (plainElem Tryd.prog 3) (w.heap.size + 1) k2 D2 ∧ Blk wr w.heap.size 74 #[vc, .func (.func (ruleF all)) #[] #[], .slice At U.length ct] ∧ Hid (RowAt w wr (.slice At U.length ct) U) ∧ Hid (RowAt w wr (.slice A3 V.length c3) V) ∧ Below w.heap.size w wr)
      case atStart => exact ⟨0, k, D, by omega, rfl, HTT, by omega, HM3.out, HG3.out, HRU, HRV, HB3.out⟩
      case round =>
        clear HTT HM3 HG3 HRU HRV HB3
        obtain ⟨j, k2, D2, hjg, rfl, htb, hk2, hmp, hgb, hru, hrv, hB⟩ := hrel
        obtain ⟨p0, p1, p2⟩ := blkW hgb
        have HB := Lib.hid hB
        have HG := Lib.hid hgb
        have hsz := hB.size
        cases gk with
        | zero =>
          obtain rfl : j = U.length := by omega
          have HT2 := Lib.hid (HTE.out D2 HVU.out htb.out.1 (fun a ha => htb.out.2 a (by rw [List.take_length]; exact ha)))
          have HM6 := Lib.hid hmp
          clear hgb hmp hB htb hru hrv
          go_wp2_with fail
          first | go_ret | (rw [Exit.noGoto_ret]; go_ret)
          exact ⟨_, k2, D2, rfl, Nat.le_succ _, HM6.out, HT2.out, HB.out⟩
        | succ g3 =>
          have hlt : j < U.length := by omega
          have hlt' : (j : Int) < (U.length : Int) := by omega
          obtain ⟨a, ha⟩ : ∃ a, U[j]? = some a := ⟨_, List.getElem?_eq_getElem hlt⟩
          have ham := List.mem_of_getElem? ha
          have ha8 : a < 256 := by have := HUMt.out a ham; have := HPW.out; omega
          obtain ⟨_, _, hfx, hcx⟩ := hru.out.nums.form
          cases hfx
          obtain ⟨g5, o5, rfl, c5⟩ := hcx j a ha
          have HK := Lib.hid (ukey ha8)
          have HTB2 : Hid (TabT n l all L t (D2.put (.int .u64 (a : Int)) (.lit (.int .i64 9223372036854775807))) ∧ ∀ x ∈ U.take (j + 1), AtU (D2.put (.int .u64 (a : Int)) (.lit (.int .i64 9223372036854775807))) x 9223372036854775807) := ⟨HPT.out a 9223372036854775807 D2 htb.out.1 ham, first_put hmp.isMap htb.out.2 ha ha8⟩
          have HWF : Hid ((Lit.int .i64 (9223372036854775807 : Int)).wf = true) := rfl
          have HMP := Lib.hid hmp
          clear ha ham hcx hgb hB
          go_wp2_with (at_mapUpdate; refine wpList_mapUpdate_own _ rfl _ _ _ 81 rfl 64 3 lawU Tryd.underlying81 _ (w.heap.size + 1) k2 _ rfl hmp (by unfold maxLen; omega) _ _ _ rfl rfl HK.out _ [] (plainElem_int Tryd.underlying3 HWF.out) ?_; intro w5 hown5 hgrow5)
          have HM5 := Lib.hid hown5
          have HG5 := Lib.hid (blk_map HG.out hgrow5 (by omega))
          have HRU5 := Lib.hid (hru.out.mapped HMP.out (by omega) hgrow5)
          have HRV5 := Lib.hid (hrv.out.mapped HMP.out (by omega) hgrow5)
          have HB5 := Lib.hid (HB.out.grown hgrow5 HB.out.size (fun i e => by simp at e; omega))
          clear hown5 hgrow5 p0 p1 p2 c5 hmp
          go_roundg g3
          case measure => omega
          case rel => exact ⟨j + 1, k2 + 1, _, by omega, by go_num, HTB2, by omega, HM5.out, HG5.out, HRU5, HRV5, HB5.out⟩
    · have hq1 : ((V.length : Int) == (U.length : Int)) = false := by rw [beq_eq_false_iff_ne]; omega
      have hq2 : (V.length == U.length) = false := by rw [beq_eq_false_iff_ne]; exact hlen
      have HGX := Lib.hid (HGN.out hlen)
      clear hlen
      go_wp2_with fail
      have HTT : Hid (TabT n l all L t D ∧ ∀ a ∈ U.take 0, AtU D a (t : Int)) := ⟨hgo.out.2, fun a ha => by simp at ha⟩
      clear p0 p1 p2 hgo
      go_loopg [7, 27] U.length (fun g _ iv wr => ∃ (j k2 : Nat) (D2 : DataW Unit), j + g = U.length ∧ iv = .int .i64 (j : Int) ∧ Hid (TabT n l all L t D2 ∧ ∀ a ∈ U.take j, AtU D2 a (t : Int)) ∧ k2 ≤ k + j ∧ wr.ownsMap Tryd.prog 64 (plainElem Tryd.prog 3) (w.heap.size + 1) k2 D2 ∧ Blk wr w.heap.size 74 #[vc, .func (.func (ruleF all)) #[] #[], .slice At U.length ct] ∧ Hid (RowAt w wr (.slice At U.length ct) U) ∧ Hid (RowAt w wr (.slice A3 V.length c3) V) ∧ Below w.heap.size w wr)
      case atStart => exact ⟨0, k, D, by omega, rfl, HTT, by omega, HM3.out, HG3.out, HRU, HRV, HB3.out⟩
      case round =>
        clear HTT HM3 HG3 HRU HRV HB3
        obtain ⟨j, k2, D2, hjg, rfl, htb, hk2, hmp, hgb, hru, hrv, hB⟩ := hrel
        obtain ⟨p0, p1, p2⟩ := blkW hgb
        have HB := Lib.hid hB
        have HG := Lib.hid hgb
        have hsz := hB.size
        cases gk with
        | zero =>
          obtain rfl : j = U.length := by omega
          have HT2 := Lib.hid (HDN.out D2 htb.out.1 (fun a ha => htb.out.2 a (by rw [List.take_length]; exact ha)))
          have y2 := hgb.frozen 2
          have HG6 : Hid (Blk (wr.setCell ⟨w.heap.size, 2, none⟩ (.slice A3 V.length c3)) w.heap.size 74 #[vc, .func (.func (ruleF all)) #[] #[], .slice A3 V.length c3]) := by
            have h_ := hgb.set_ 2 (.slice A3 V.length c3)
            show Blk _ _ _ _
            simpa using h_
          have HRV6 := Lib.hid (hrv.out.boxed (i := 2) (x := .slice A3 V.length c3) hgb (Nat.le_refl _))
          have HM6 := Lib.hid (hmp.setCell (a := ⟨w.heap.size, 2, none⟩) (by show w.heap.size + 1 ≠ w.heap.size; omega) (.slice A3 V.length c3))
          have HB6 := Lib.hid (hB.setCell (p := ⟨w.heap.size, 2, none⟩) (Nat.le_refl _) (.slice A3 V.length c3))
          clear hgb hmp hB htb hru hrv
          go_wp2_with fail
          go_roundg g2
          case measure => omega
          case rel =>
            refine ⟨t + 1, k2, D2, A3, c3, by omega, by go_num, ⟨HGX.out, HT2.out⟩, by omega, ?_⟩
            rw [HVE.out]
            exact ⟨HG6.out, HRV6, HM6.out, HB6.out⟩
        | succ g3 =>
          have hlt : j < U.length := by omega
          have hlt' : (j : Int) < (U.length : Int) := by omega
          obtain ⟨a, ha⟩ : ∃ a, U[j]? = some a := ⟨_, List.getElem?_eq_getElem hlt⟩
          have ham := List.mem_of_getElem? ha
          have ha8 : a < 256 := by have := HUMt.out a ham; have := HPW.out; omega
          obtain ⟨_, _, hfx, hcx⟩ := hru.out.nums.form
          cases hfx
          obtain ⟨g5, o5, rfl, c5⟩ := hcx j a ha
          have HK := Lib.hid (ukey ha8)
          have HTB2 : Hid (TabT n l all L t (D2.put (.int .u64 (a : Int)) (.lit (.int .i64 (t : Int)))) ∧ ∀ x ∈ U.take (j + 1), AtU (D2.put (.int .u64 (a : Int)) (.lit (.int .i64 (t : Int)))) x (t : Int)) := ⟨HPT.out a (t : Int) D2 htb.out.1 ham, first_put hmp.isMap htb.out.2 ha ha8⟩
          have HWF : Hid ((Lit.int .i64 ((t : Int) : Int)).wf = true) := wf64 ⟨by omega, by omega⟩
          have HMP := Lib.hid hmp
          clear ha ham hcx hgb hB
          go_wp2_with (at_mapUpdate; refine wpList_mapUpdate_own _ rfl _ _ _ 81 rfl 64 3 lawU Tryd.underlying81 _ (w.heap.size + 1) k2 _ rfl hmp (by unfold maxLen; omega) _ _ _ rfl rfl HK.out _ [] (plainElem_int Tryd.underlying3 HWF.out) ?_; intro w5 hown5 hgrow5)
          have HM5 := Lib.hid hown5
          have HG5 := Lib.hid (blk_map HG.out hgrow5 (by omega))
          have HRU5 := Lib.hid (hru.out.mapped HMP.out (by omega) hgrow5)
          have HRV5 := Lib.hid (hrv.out.mapped HMP.out (by omega) hgrow5)
          have HB5 := Lib.hid (HB.out.grown hgrow5 HB.out.size (fun i e => by simp at e; omega))
          clear hown5 hgrow5 p0 p1 p2 c5 hmp
          go_roundg g3
          case measure => omega
          case rel => exact ⟨j + 1, k2 + 1, _, by omega, by go_num, HTB2, by omega, HM5.out, HG5.out, HRU5, HRV5, HB5.out⟩
end Go.Proofs.YthpodbhiopnnbaaDoor.ups

/- The contract of the program's resultsOf with numbers. -/
namespace Go.Proofs.YthpodbhiopnnbaaDoor.ups
open Go.RowKit P2 words edges ints good adjs fns sets rets covs bitsI func
set_option linter.unusedVariables false

/-- a function value that returns numbers for the elements of a list of words, in every world that goes on from w -/
structure FnN (w : World) (f : FuncId) (caps : Array Value) (xs : List Nat) (F : Nat → Int) : Prop where
  enter : ∀ (args : Array Value) (W : World), (callFunc f args).run Tryd.prog W = .ok (.enter f args) W
  call : ∀ W, Below w.heap.size w W → ∀ x ∈ xs, Calls Tryd.prog f (#[.int .u64 (x : Int)] ++ caps) W fun e W' => e = .returned (.int .i64 (F x)) ∧ Below W.heap.size W W'
theorem FnN.on {w w' : World} {f : FuncId} {caps : Array Value} {xs : List Nat} {F : Nat → Int} (h : FnN w f caps xs F) (hb : Below w.heap.size w w') : FnN w' f caps xs F :=
  { enter := h.enter, call := fun W hW x hx => h.call W (btrans hb hW) x hx }
/-- so many numbers are there -/
def numT (L : List Nat) (F : Nat → Int) (k : Nat) : List Int := (L.take k).map F ++ List.replicate (L.length - k) 0
theorem numT_len (L : List Nat) (F : Nat → Int) {k : Nat} (h : k ≤ L.length) : (numT L F k).length = L.length := by simp [numT]; omega
theorem numT_zero (L : List Nat) (F : Nat → Int) : numT L F 0 = List.replicate L.length 0 := by simp [numT]
theorem numT_all (L : List Nat) (F : Nat → Int) : numT L F L.length = L.map F := by simp [numT]
theorem numT_succ {L : List Nat} {F : Nat → Int} {k c : Nat} (h : L[k]? = some c) : (numT L F k).set k (F c) = numT L F (k + 1) := by
  have hk := (List.getElem?_eq_some_iff.1 h).1
  have hl : ((L.take k).map F).length = k := by rw [List.length_map, List.length_take]; omega
  unfold numT
  obtain ⟨m, hm⟩ : ∃ m, L.length - k = m + 1 := ⟨L.length - k - 1, by omega⟩
  rw [List.set_append, if_neg (by omega), hl, Nat.sub_self, hm, List.replicate_succ, List.set_cons_zero, List.take_add_one, h, show L.length - (k + 1) = m from by omega, List.map_append, List.append_assoc]
  rfl
set_option maxHeartbeats 4000000 in
set_option maxRecDepth 100000 in
theorem resultsN_any (u : Value) (L : List Nat) (f : FuncId) (caps : Array Value) (F : Nat → Int) (w : World) (hu : Nums w u L) (hl : L.length ≤ 1048576) (h : FnN w f caps L F) :
    Calls Tryd.prog 59 #[u, .func (.func f) #[] caps] w (RowI w (L.map F)) := by
  obtain ⟨A, c, rfl, hc⟩ := hu.form
  have HU := Lib.hid hu
  have hent := h.enter
  have HF := Lib.hid h.call
  obtain ⟨i0, hi, hz0, hz1, hz2⟩ := info_parts infoInt
  have hmk := fun (W : World) => run_make_rowN (P := Tryd.prog) 25 3 i0 (.int .i64 0) Tryd.underlying25 hi hz0 .i64 .i64 L.length L.length (Nat.le_refl _) (by rw [hz2]; omega) (by omega) W
  have hown := World.ownsRow_lit (base := w.heap.size) (e := 3) (size := 1) w (madeCells #[Value.int .i64 0] (L.length * 1)) L.length (Nat.le_refl _) (by unfold maxLen; omega) (size_madeCells _ _)
  rw [toList_madeCells_one, Nat.mul_one, show List.replicate L.length (Value.int .i64 0) = cellsI (numT L F 0) from by rw [numT_zero]; simp [cellsI]] at hown
  have HOWN := Lib.hid hown
  have HB2 : Hid (Below w.heap.size w (w.alloc (.cells (madeCells #[Value.int .i64 0] L.length) 3))) := (Below.refl _ _).alloc (Nat.le_refl _) _
  clear hu hc h hown
  go_enter Tryd.func59, Tryd.ntmps59
  go_wp2_with fail
  go_loopg [6, 7, 13] L.length (fun g _ _ i wr => ∃ (k : Nat), k + g = L.length ∧ i = .int .i64 (k : Int) ∧ wr.ownsRow w.heap.size 3 1 (.slice (some ⟨w.heap.size, 0, none⟩) L.length L.length) L.length (cellsI (numT L F k)) ∧ Below w.heap.size w wr)
  case atStart => exact ⟨0, by omega, rfl, HOWN.out, HB2.out⟩
  case round =>
    clear HOWN HB2 hmk
    obtain ⟨k, hkg, rfl, hrow, hB⟩ := hrel
    cases gk with
    | zero =>
      obtain rfl : k = L.length := by omega
      rw [numT_all] at hrow
      have HR := Lib.hid hrow
      have HB := Lib.hid hB
      clear hrow hB
      go_wp2_with fail
      go_ret
      exact ⟨some ⟨w.heap.size, 0, none⟩, L.length, by rw [List.length_map]; rfl, by rw [List.length_map]; exact HR.out, HB.out⟩
    | succ g2 =>
      have hlt : k < L.length := by omega
      have hlt' : (k : Int) < (L.length : Int) := by omega
      obtain ⟨x, hx⟩ : ∃ x, L[k]? = some x := ⟨_, List.getElem?_eq_getElem hlt⟩
      obtain ⟨_, _, hf2, hcc⟩ := (show Nums wr (.slice A L.length c) L from HU.out.below hB).form
      cases hf2
      obtain ⟨g5, o5, rfl, c5⟩ := hcc k x hx
      have HD := Lib.hid (HF.out wr hB x (List.mem_of_getElem? hx))
      have HR := Lib.hid hrow
      have HB := Lib.hid hB
      have HX := Lib.hid hx
      have HTL := Lib.hid (numT_len L F (k := k) (by omega))
      clear hrow hB hx hcc
      go_wp2_with fail
      refine HD.out.mono ?_
      rintro e w3 ⟨rfl, b3⟩
      have h1 := own_below HR.out b3
      obtain ⟨u0, hu0⟩ : ∃ u, (numT L F k)[k]? = some u := ⟨_, List.getElem?_eq_getElem (by rw [HTL.out]; exact hlt)⟩
      have f0 := h1.cellAt k (by omega)
      rw [show (cellsI (numT L F k))[k]? = some (.int .i64 u0) from by simp [cellsI, hu0]] at f0
      have z0 := h1.frozenAt k
      have hst := (h1.stored k (.int .i64 (F x))).1
      rw [show (cellsI (numT L F k)).set k (.int .i64 (F x)) = cellsI (numT L F (k + 1)) from by rw [← numT_succ HX.out]; simp [cellsI, List.map_set]] at hst
      have HS := Lib.hid hst
      have HB3 := Lib.hid (btrans HB.out b3)
      clear h1 hst hu0 c5 b3
      go_wp2_with fail
      go_roundg g2
      case measure => omega
      case rel => exact ⟨k + 1, by omega, by go_num, HS.out, HB3.out.setCell (Nat.le_refl _) _⟩
end Go.Proofs.YthpodbhiopnnbaaDoor.ups

/- Guards: the contract of the program's Resistances. -/
namespace Go.Proofs.YthpodbhiopnnbaaDoor.ups
open Go.RowKit Go.Maps P2 words edges ints good adjs fns sets rets covs bags bitsI func lists least near
set_option linter.unusedVariables false

/-- the resistances of all sets -/
noncomputable def rsvL (s : Int) (l : List Ed) (all : Bool) (k : Int) : List Int := (setsK s.toNat k.toNat).map (resV s.toNat l all (setsK s.toNat k.toNat))
theorem resP_back {n : Nat} {l : List Ed} {all : Bool} {L : List Nat} {a : Nat} (hL : L.length ≤ 256) (ha : a ∈ L) : resV n l all L a < 9223372036854775807 ∧ -1 ≤ resV n l all L a := by
  by_cases h : ∃ t, Dep n l all L a t
  · obtain ⟨t, ht⟩ := h
    rw [resV_dep ht]
    have : ∀ t, (usN n l all L (t + 1)).length < (usN n l all L t).length → t < L.length := by
      intro t h1
      have h2 : ∀ s, s ≤ t → (usN n l all L s).length + s ≤ L.length := by
        intro s
        induction s with
        | zero => intro _; exact Nat.le_refl _
        | succ s ih =>
          intro hs
          have h3 := ih (by omega)
          have h4 := us_len (n := n) (l := l) (all := all) (L := L) s
          by_cases h5 : (usN n l all L (s + 1)).length = (usN n l all L s).length
          · have h6 := us_stable (us_fix h5) (t - s)
            have h7 := us_stable (us_fix h5) (t + 1 - s)
            rw [show s + (t - s) = t from by omega] at h6
            rw [show s + (t + 1 - s) = t + 1 from by omega] at h7
            rw [h6, h7] at h1
            omega
          · omega
      have := h2 t (Nat.le_refl _)
      omega
    have hne : (usN n l all L (t + 1)).length < (usN n l all L t).length := by
      have h1 := us_len (n := n) (l := l) (all := all) (L := L) t
      by_cases e : (usN n l all L (t + 1)).length = (usN n l all L t).length
      · have := us_fix e
        exact absurd (this ▸ ht.1) ht.2
      · omega
    have := this t hne
    omega
  · unfold resV
    rw [okG_no h]
    simp
set_option maxHeartbeats 2000000 in
set_option maxRecDepth 100000 in
theorem rsvClo_any (n a b1 b k : Nat) (all : Bool) (L : List Nat) (l : List Ed) (D : DataW Unit) (w : World) (h1 : w.cell? ⟨b1, 0, none⟩ = some (.map (some b))) (hm : w.ownsMap Tryd.prog 64 (plainElem Tryd.prog 3) b k D) (hD : AtU D a (resP n l all L a)) (hL : L.length ≤ 256) (ha : a ∈ L) (ha8 : a < 256) :
    Calls Tryd.prog 60 #[.int .u64 (a : Int), .pointer (some ⟨b1, 0, none⟩)] w fun e w' => e = .returned (.int .i64 (resV n l all L a)) ∧ Below w.heap.size w w' := by
  have hb := resP_back (n := n) (l := l) (all := all) hL ha
  have HK := Lib.hid (ukey ha8)
  unfold resP at hD
  generalize resV n l all L a = r at *
  by_cases hr : r < 0
  · obtain rfl : r = -1 := by omega
    rw [if_pos hr] at hD
    have HD := Lib.hid hD
    clear hb hr hD
    go_enter Tryd.func60, Tryd.ntmps60
    go_wp2_with (at_lookup; refine wpList_lookup_own_int _ rfl _ _ 81 rfl 64 3 .i64 lawU Tryd.underlying81 Tryd.underlying3 rfl b k D rfl hm _ _ rfl HK.out ?_; intro c hc _; obtain rfl : c = 9223372036854775807 := (by have h_ := hc.symm.trans HD.out; simpa using h_))
    go_ret
    exact ⟨rfl, Below.refl _ _⟩
  · rw [if_neg hr] at hD
    have HD := Lib.hid hD
    have hq : (r == 9223372036854775807) = false := by rw [beq_eq_false_iff_ne]; omega
    clear hb hr hD
    go_enter Tryd.func60, Tryd.ntmps60
    go_wp2_with (at_lookup; refine wpList_lookup_own_int _ rfl _ _ 81 rfl 64 3 .i64 lawU Tryd.underlying81 Tryd.underlying3 rfl b k D rfl hm _ _ rfl HK.out ?_; intro c hc _; obtain rfl : r = c := (by have h_ := hc.symm.trans HD.out; simp at h_; exact h_.symm))
    go_ret
    exact ⟨rfl, Below.refl _ _⟩
set_option maxHeartbeats 4000000 in
set_option maxRecDepth 100000 in
theorem implRsv_any (s k : Int) (all : Bool) (v : Value) (l : List Ed) (w : World) (hE : Env w) (h : Edges w v l) (hl : l.length ≤ 1048576) :
    Calls Tryd.prog 24 #[.agg #[.int .i64 s, v], .int .i64 k, .bool all] w (RetI w (GrdOk s l k) (rsvL s l all k)) := by
  obtain ⟨A, c, rfl, -⟩ := h.form
  have hmf : ∀ (fn : Fn) (first cap : Array Value) (w : World), (Instr.makeFunc fn first cap).run Tryd.prog w = .ok (.func fn first cap) w := fun _ _ _ _ => rfl
  have H := Lib.hid h
  have HEN := Lib.hid hE
  have b0 : Below w.heap.size w (w.alloc (.cells #[.int .i64 s, .slice A l.length c] 29)) := (Below.refl _ _).alloc (Nat.le_refl _) _
  have g0 := Blk.new w 29 #[.int .i64 s, .slice A l.length c]
  obtain ⟨p0, p1, -, -⟩ := g0.two
  have HN := Lib.hid (hasGuards_any s k _ l _ (h.below b0) hl)
  have HB0 := Lib.hid b0
  have HG0 := Lib.hid g0
  clear h b0 g0 hE
  by_cases hok : GrdOk s l k
  · rw [okG_yes hok] at HN
    have HOK := Lib.hid hok
    have h0 := hok.1.1
    have h8 := hok.1.2.1
    have hk0 := hok.2.1
    have hks := hok.2.2
    obtain ⟨n, rfl⟩ : ∃ n : Nat, s = (n : Int) := ⟨s.toNat, by omega⟩
    obtain ⟨m, rfl⟩ : ∃ m : Nat, k = (m : Int) := ⟨k.toNat, by omega⟩
    have hn : n ≤ 8 := by omega
    have hm : m ≤ 8 := by omega
    have HV : Hid (rsvL (n : Int) l all (m : Int) = (setsK n m).map (resV n l all (setsK n m))) := by show _ = _; unfold rsvL; rw [Int.toNat_natCast, Int.toNat_natCast]
    have hsl := setsK_len hn hm
    have HWI := Lib.hid (fun (W : World) (hW : Below w.heap.size w W) => watchIn_any n m all (.slice A l.length c) l W (H.out.below hW) hl hok.1 hn hm)
    have HRE := Lib.hid (fun (W : World) (vc vs : Value) (hW : Below w.heap.size w W) (hc : Nums W vc (clos l n)) (hs : Nums W vs (setsK n m)) => resistances_any n all vc vs (setsK n m) l W (HEN.out.next hW) hc hs (fun c hc => ((setsK_mem hn hm).1 hc).1) hsl hok.1 hn)
    have HM8 : Hid (∀ c ∈ setsK n m, c < 256) := fun c hc => Nat.lt_of_lt_of_le ((setsK_mem hn hm).1 hc).1 (pow_le hn)
    clear hok
    generalize setsK n m = L at *
    go_enter Tryd.func24, Tryd.ntmps24
    go_wp2_with fail
    refine HN.out.mono ?_
    rintro e w1 ⟨rfl, b1⟩
    have HE1 := Lib.hid (btrans HB0.out b1)
    have HG1 := Lib.hid (HG0.out.below b1 HG0.out.lt)
    clear p0 p1 b1 HN HB0 HG0
    obtain ⟨p0, p1, -, -⟩ := HG1.out.two
    go_wp2_with fail
    refine (HWI.out w1 HE1.out).mono ?_
    rintro e w2 ⟨A3, c3, A4, c4, rfl, i3, o4, b2⟩
    obtain ⟨W2, hW2⟩ : ∃ W2, W2 = w2.alloc (.cells #[.slice A3 (clos l n).length c3, .func (.func (ruleF all)) #[] #[], .slice A4 L.length c4] 74) := ⟨_, rfl⟩
    have e2 := btrans HE1.out b2
    have d2 : Below w2.heap.size w2 W2 := by rw [hW2]; exact (Below.refl _ _).alloc (Nat.le_refl _) _
    have HE2 := Lib.hid (btrans e2 d2)
    have HK2 : Hid (Blk W2 w2.heap.size 74 #[.slice A3 (clos l n).length c3, .func (.func (ruleF all)) #[] #[], .slice A4 L.length c4]) := by show Blk _ _ _ _; rw [hW2]; exact Blk.new _ _ _
    have HL2 : Hid (Nums W2 (.slice A4 L.length c4) L) := (show Nums w2 _ _ from Reads.of_own o4).below d2
    have HRE2 := Lib.hid (HRE.out W2 _ _ HE2.out (i3.below d2) HL2.out)
    have HW2 := Lib.hid hW2
    obtain ⟨q0, q1, q2⟩ := blkW HK2.out
    rw [hW2] at q0 q1 q2
    unfold watV at HRE2 ⊢
    clear p0 p1 b2 i3 o4 hW2 e2 d2
    go_wp2_with fail
    rw [← HW2.out]
    refine HRE2.out.mono ?_
    rintro e w3 ⟨b, km, D, rfl, hbw, hmp, hat, b3⟩
    obtain ⟨W3, hW3⟩ : ∃ W3, W3 = w3.alloc (.cells #[.map (some b)] 81) := ⟨_, rfl⟩
    have d3 : Below w3.heap.size w3 W3 := by rw [hW3]; exact (Below.refl _ _).alloc (Nat.le_refl _) _
    have e3 : Below W2.heap.size W2 W3 := btrans b3 d3
    have HE3 := Lib.hid (btrans HE2.out e3)
    have HK3 : Hid (Blk W3 w3.heap.size 81 #[.map (some b)]) := by show Blk _ _ _ _; rw [hW3]; exact Blk.new _ _ _
    have HM3 : Hid (W3.ownsMap Tryd.prog 64 (plainElem Tryd.prog 3) b km D) := by show World.ownsMap _ _ _ _ _ _ _; rw [hW3]; exact hmp.alloc _
    have HK4 := Lib.hid (HK2.out.below e3 HK2.out.lt)
    have HRS := Lib.hid (resultsN_any (.slice A4 L.length c4) L 60 #[.pointer (some ⟨w3.heap.size, 0, none⟩)] (resV n l all L) W3 (HL2.out.below e3) (by omega)
      { enter := fun _ _ => by kernel_rfl
        call := fun W hW x hx => rsvClo_any n x w3.heap.size b km all L l D W ((HK3.out.below hW HK3.out.lt).cell 0) (HM3.out.kept (row := none) (gof hW none) (by simp)) (hat x hx) hsl hx (HM8.out x hx) })
    generalize L.map (resV n l all L) = RM at *
    have HW3 := Lib.hid hW3
    obtain ⟨r0, r1, r2⟩ := blkW HK4.out
    rw [hW3] at r0 r1 r2
    clear q0 q1 q2 hmp hat b3 hW3 d3 e3 hbw
    go_wp2_with fail
    rw [← HW3.out]
    refine HRS.out.mono ?_
    rintro e w4 ⟨A6, c6, rfl, o6, b4⟩
    go_wp2_with fail
    go_ret2
    rw [HV.out]
    exact RetI.yes HOK.out (own_base o6 HE3.out.size) (btrans HE3.out b4)
  · rw [okG_no hok] at HN
    have HNO := Lib.hid hok
    clear hok
    go_enter Tryd.func24, Tryd.ntmps24
    go_wp2_with fail
    refine HN.out.mono ?_
    rintro e w1 ⟨rfl, b1⟩
    have HE1 := Lib.hid (btrans HB0.out b1)
    clear p0 p1 b1
    go_wp2_with fail
    go_ret2
    exact RetI.nil HNO.out HE1.out
end Go.Proofs.YthpodbhiopnnbaaDoor.ups

/- Guards: the contracts of the model's l10Known and Resistances. -/
namespace Go.Proofs.YthpodbhiopnnbaaDoor.ups
open Go.RowKit P2 words edges ints owns good adjs fns sets rets covs bags balls bitsI func lists times apps gridr grid trip minmax
set_option linter.unusedVariables false

set_option maxHeartbeats 2000000 in
set_option maxRecDepth 100000 in
theorem l10Known_any (n m : Nat) (all : Bool) (v : Value) (l : List Ed) (w : World) (h : Edges w v l) (hl : l.length ≤ 1048576) (hg : P2.Good (n : Int) l) (hn : n ≤ 8) (hm : m ≤ 8) :
    Calls Tryd.prog 56 #[.agg #[.int .i64 (n : Int), v], .int .i64 (m : Int), .bool all] w (RowI w ((setsK n m).map (resV n l all (setsK n m)))) := by
  obtain ⟨A, c, rfl, -⟩ := h.form
  have b0 : Below w.heap.size w (w.alloc (.cells #[.int .i64 (n : Int), .slice A l.length c] 29)) := (Below.refl _ _).alloc (Nat.le_refl _) _
  have g0 := Blk.new w 29 #[.int .i64 (n : Int), .slice A l.length c]
  obtain ⟨p0, p1, -, -⟩ := g0.two
  have HS := Lib.hid (fun (W : World) => l10Sets_any n m (.slice A l.length c) W hn hm)
  have hL : ∀ c ∈ setsK n m, c < 2 ^ n ∧ onesN c = m := fun c hc => (setsK_mem hn hm).1 hc
  have hLl := setsK_len hn hm
  have HT := Lib.hid (fun (t : Value) (us : List Value) (W : World) (hW : Below w.heap.size w W) (ht : ReadsG W t us (rowN (setsK n m))) => l10Table_any n m all (.slice A l.length c) t us (setsK n m) l W (h.below hW) hl ht hL hLl hg hn)
  have HR := Lib.hid (fun (t v : Value) (us vs : List Value) (W : World) (ht : ReadsG W t us (rowN (setsK n m))) (hv : ReadsGG W v vs (tblL n l all (setsK n m))) => l10Resist_any n m all v t us vs (setsK n m) l W ht hv hL hLl hn)
  have HB0 := Lib.hid b0
  have HG0 := Lib.hid g0
  clear h b0 g0 hg hL hLl
  generalize setsK n m = LK at *
  generalize hRV : LK.map (resV n l all LK) = RV at *
  have HRV := Lib.hid hRV
  clear hRV
  go_enter Tryd.func56, Tryd.ntmps56
  go_wp2_with fail
  refine (HS.out _).mono ?_
  rintro e w2 ⟨A2, c2, us, rfl, o2, b2⟩
  have HE2 := Lib.hid (btrans HB0.out b2)
  have HG2 := Lib.hid (HG0.out.below b2 HG0.out.lt)
  have HR2 := Lib.hid (gridl.readsG_of_own o2)
  clear p0 p1 o2 b2
  obtain ⟨p0, p1, -, -⟩ := HG2.out.two
  go_wp2_with fail
  refine (HT.out _ us w2 HE2.out HR2.out).mono ?_
  rintro e w3 ⟨A3, c3, vs, rfl, o3, b3⟩
  have HE3 := Lib.hid (btrans HE2.out b3)
  have HR3 := Lib.hid (HR2.out.below b3)
  have HO3 := Lib.hid o3.reads
  clear p0 p1 o3 b3
  go_wp2_with fail
  refine (HR.out _ _ us vs w3 HR3.out HO3.out).mono ?_
  rintro e w4 ⟨A4, c4, rfl, o4, b4⟩
  have HE4 := Lib.hid (btrans HE3.out b4)
  have HO4 := Lib.hid (own_base (B' := w.heap.size) o4 HE3.out.size)
  clear o4 b4
  go_wp2_with fail
  go_ret
  exact ⟨A4, c4, rfl, HO4.out, HE4.out⟩
set_option maxHeartbeats 2000000 in
set_option maxRecDepth 100000 in
theorem specRsv_any (s k : Int) (all : Bool) (v : Value) (l : List Ed) (w : World) (h : Edges w v l) (hl : l.length ≤ 1048576) (hs1 : -9223372036854775808 ≤ s) (hs2 : s ≤ 9223372036854775807) :
    Calls Tryd.prog 23 #[.agg #[.int .i64 s, v], .int .i64 k, .bool all] w (RetI w (GrdOk s l k) (rsvL s l all k)) := by
  obtain ⟨A, c, rfl, -⟩ := h.form
  have H := Lib.hid h
  have b0 : Below w.heap.size w (w.alloc (.cells #[.int .i64 s, .slice A l.length c] 29)) := (Below.refl _ _).alloc (Nat.le_refl _) _
  have g0 := Blk.new w 29 #[.int .i64 s, .slice A l.length c]
  obtain ⟨p0, p1, -, -⟩ := g0.two
  have HN := Lib.hid (l10Good_any s k _ l _ (h.below b0) hl hs1 hs2)
  have HB0 := Lib.hid b0
  have HG0 := Lib.hid g0
  clear h b0 g0
  by_cases hok : GrdOk s l k
  · rw [okG_yes hok] at HN
    have HOK := Lib.hid hok
    have h0 := hok.1.1
    have h8 := hok.1.2.1
    have hk0 := hok.2.1
    have hks := hok.2.2
    obtain ⟨n, rfl⟩ : ∃ n : Nat, s = (n : Int) := ⟨s.toNat, by omega⟩
    obtain ⟨m, rfl⟩ : ∃ m : Nat, k = (m : Int) := ⟨k.toNat, by omega⟩
    have HV : Hid (rsvL (n : Int) l all (m : Int) = (setsK n m).map (resV n l all (setsK n m))) := by show _ = _; unfold rsvL; rw [Int.toNat_natCast, Int.toNat_natCast]
    have hn : n ≤ 8 := by omega
    have hm : m ≤ 8 := by omega
    have HS := Lib.hid (fun (W : World) (hW : Below w.heap.size w W) => l10Known_any n m all (.slice A l.length c) l W (H.out.below hW) hl hok.1 hn hm)
    clear hok
    generalize hRV : (setsK n m).map (resV n l all (setsK n m)) = RV at *
    clear hRV
    go_enter Tryd.func23, Tryd.ntmps23
    go_wp2_with fail
    refine HN.out.mono ?_
    rintro e w1 ⟨rfl, b1⟩
    have HE1 := Lib.hid (btrans HB0.out b1)
    have HG1 := Lib.hid (HG0.out.below b1 HG0.out.lt)
    clear p0 p1 b1 HN HB0 HG0
    obtain ⟨p0, p1, -, -⟩ := HG1.out.two
    go_wp2_with fail
    refine (HS.out w1 HE1.out).mono ?_
    rintro e w2 ⟨A2, c2, rfl, o2, b2⟩
    have o4 := own_base (B' := w.heap.size) o2 HE1.out.size
    have e4 := btrans HE1.out b2
    clear o2 b2 p0 p1
    go_wp2_with fail
    go_ret2
    rw [HV.out]
    exact RetI.yes HOK.out o4 e4
  · rw [okG_no hok] at HN
    have HNO := Lib.hid hok
    clear hok
    go_enter Tryd.func23, Tryd.ntmps23
    go_wp2_with fail
    refine HN.out.mono ?_
    rintro e w1 ⟨rfl, b1⟩
    have HE1 := Lib.hid (btrans HB0.out b1)
    clear p0 p1 b1
    go_wp2_with fail
    go_ret2
    exact RetI.no HNO.out (own_base (own_new0 w1 3 1) HE1.out.size) (HE1.out.alloc HE1.out.size _)
theorem rsv_len (s k : Int) (l : List Ed) (all : Bool) : (inG (GrdOk s l k) (rsvL s l all k)).length ≤ 1048576 := by
  by_cases h : GrdOk s l k
  · rw [inG_yes h]
    unfold rsvL
    rw [List.length_map]
    have h8 := h.1.2.1
    have hks := h.2.2
    have := setsK_len (n := s.toNat) (k := k.toNat) (by omega) (by omega)
    omega
  · rw [inG_no h]; exact Nat.zero_le _
end Go.Proofs.YthpodbhiopnnbaaDoor.ups

/- Guards: the contract of the program's EternalFamily. -/
namespace Go.Proofs.YthpodbhiopnnbaaDoor.ups
open Go.RowKit Go.Maps P2 words edges ints owns good adjs fns sets rets covs bags bitsI func lists least near grid
set_option linter.unusedVariables false

/-- the sets that can answer any number of attacks -/
noncomputable def efK (n : Nat) (l : List Ed) (all : Bool) (k : Nat) : List Nat := (setsK n k).filter fun a => decide (resV n l all (setsK n k) a < 0)
noncomputable def efN (s : Int) (l : List Ed) (all : Bool) (k : Int) : List Nat := efK s.toNat l all k.toNat
/-- there are some -/
def EfOk (s : Int) (l : List Ed) (all : Bool) (k : Int) : Prop := GrdOk s l k ∧ efN s l all k ≠ []
theorem efK_len {n : Nat} {l : List Ed} {all : Bool} {k : Nat} (hn : n ≤ 8) (hk : k ≤ 8) : (efK n l all k).length ≤ 256 := Nat.le_trans (List.length_filter_le _ _) (setsK_len hn hk)
set_option maxHeartbeats 2000000 in
set_option maxRecDepth 100000 in
theorem efClo_any (n a b1 b k : Nat) (all : Bool) (L : List Nat) (l : List Ed) (D : DataW Unit) (w : World) (h1 : w.cell? ⟨b1, 0, none⟩ = some (.map (some b))) (hm : w.ownsMap Tryd.prog 64 (plainElem Tryd.prog 3) b k D) (hD : AtU D a (resP n l all L a)) (hL : L.length ≤ 256) (ha : a ∈ L) (ha8 : a < 256) :
    Calls Tryd.prog 63 #[.int .u64 (a : Int), .pointer (some ⟨b1, 0, none⟩)] w fun e w' => e = .returned (.bool (!decide (resV n l all L a < 0))) ∧ Below w.heap.size w w' := by
  have hb := resP_back (n := n) (l := l) (all := all) hL ha
  have HK := Lib.hid (ukey ha8)
  unfold resP at hD
  generalize resV n l all L a = r at *
  by_cases hr : r < 0
  · rw [if_pos hr] at hD
    have HD := Lib.hid hD
    have HV : Hid ((!decide (r < 0)) = false) := by show _ = _; rw [decide_eq_true hr]; rfl
    clear hb hr hD
    go_enter Tryd.func63, Tryd.ntmps63
    go_wp2_with (at_lookup; refine wpList_lookup_own_int _ rfl _ _ 81 rfl 64 3 .i64 lawU Tryd.underlying81 Tryd.underlying3 rfl b k D rfl hm _ _ rfl HK.out ?_; intro c hc _; obtain rfl : c = 9223372036854775807 := (by have h_ := hc.symm.trans HD.out; simpa using h_))
    go_ret
    rw [HV.out]
    exact ⟨rfl, Below.refl _ _⟩
  · rw [if_neg hr] at hD
    have HD := Lib.hid hD
    have HV : Hid ((!decide (r < 0)) = true) := by show _ = _; rw [decide_eq_false hr]; rfl
    have hq : (r != 9223372036854775807) = true := by rw [bne_iff_ne]; omega
    have hq2 : (r == 9223372036854775807) = false := by rw [beq_eq_false_iff_ne]; omega
    clear hb hr hD
    go_enter Tryd.func63, Tryd.ntmps63
    go_wp2_with (at_lookup; refine wpList_lookup_own_int _ rfl _ _ 81 rfl 64 3 .i64 lawU Tryd.underlying81 Tryd.underlying3 rfl b k D rfl hm _ _ rfl HK.out ?_; intro c hc _; obtain rfl : r = c := (by have h_ := hc.symm.trans HD.out; simp at h_; exact h_.symm))
    go_ret
    rw [HV.out]
    exact ⟨rfl, Below.refl _ _⟩
set_option maxHeartbeats 4000000 in
set_option maxRecDepth 100000 in
theorem implEf_any (s k : Int) (all : Bool) (v : Value) (l : List Ed) (w : World) (hE : Env w) (h : Edges w v l) (hl : l.length ≤ 1048576) :
    Calls Tryd.prog 27 #[.agg #[.int .i64 s, v], .int .i64 k, .bool all] w (RetGr w (EfOk s l all k) (rowN (efN s l all k))) := by
  obtain ⟨A, c, rfl, -⟩ := h.form
  have hmf : ∀ (fn : Fn) (first cap : Array Value) (w : World), (Instr.makeFunc fn first cap).run Tryd.prog w = .ok (.func fn first cap) w := fun _ _ _ _ => rfl
  have H := Lib.hid h
  have HEN := Lib.hid hE
  have b0 : Below w.heap.size w (w.alloc (.cells #[.int .i64 s, .slice A l.length c] 29)) := (Below.refl _ _).alloc (Nat.le_refl _) _
  have g0 := Blk.new w 29 #[.int .i64 s, .slice A l.length c]
  obtain ⟨p0, p1, -, -⟩ := g0.two
  have HN := Lib.hid (hasGuards_any s k _ l _ (h.below b0) hl)
  have HB0 := Lib.hid b0
  have HG0 := Lib.hid g0
  clear h b0 g0 hE
  by_cases hok : GrdOk s l k
  · rw [okG_yes hok] at HN
    have HOK := Lib.hid hok
    have h0 := hok.1.1
    have h8 := hok.1.2.1
    have hk0 := hok.2.1
    have hks := hok.2.2
    obtain ⟨n, rfl⟩ : ∃ n : Nat, s = (n : Int) := ⟨s.toNat, by omega⟩
    obtain ⟨m, rfl⟩ : ∃ m : Nat, k = (m : Int) := ⟨k.toNat, by omega⟩
    have hn : n ≤ 8 := by omega
    have hm : m ≤ 8 := by omega
    have HV : Hid (efN (n : Int) l all (m : Int) = efK n l all m) := by show _ = _; unfold efN; rw [Int.toNat_natCast, Int.toNat_natCast]
    have HF : Hid ((setsK n m).filter (fun x => !!decide (resV n l all (setsK n m) x < 0)) = efK n l all m) := by
      show _ = (setsK n m).filter _
      congr 1; funext x; rw [Bool.not_not]
    have hsl := setsK_len hn hm
    have hfl := efK_len (l := l) (all := all) hn hm
    have HWI := Lib.hid (fun (W : World) (hW : Below w.heap.size w W) => watchIn_any n m all (.slice A l.length c) l W (H.out.below hW) hl hok.1 hn hm)
    have HRE := Lib.hid (fun (W : World) (vc vs : Value) (hW : Below w.heap.size w W) (hc : Nums W vc (clos l n)) (hs : Nums W vs (setsK n m)) => resistances_any n all vc vs (setsK n m) l W (HEN.out.next hW) hc hs (fun c hc => ((setsK_mem hn hm).1 hc).1) hsl hok.1 hn)
    have HM8 : Hid (∀ c ∈ setsK n m, c < 256) := fun c hc => Nat.lt_of_lt_of_le ((setsK_mem hn hm).1 hc).1 (pow_le hn)
    have HF8 : Hid (∀ c ∈ efK n l all m, c < 256) := fun c hc => HM8.out c (List.mem_filter.1 hc).1
    clear hok
    generalize setsK n m = L at *
    generalize efK n l all m = F at *
    go_enter Tryd.func27, Tryd.ntmps27
    go_wp2_with fail
    refine HN.out.mono ?_
    rintro e w1 ⟨rfl, b1⟩
    have HE1 := Lib.hid (btrans HB0.out b1)
    have HG1 := Lib.hid (HG0.out.below b1 HG0.out.lt)
    clear p0 p1 b1 HN HB0 HG0
    obtain ⟨p0, p1, -, -⟩ := HG1.out.two
    go_wp2_with fail
    refine (HWI.out w1 HE1.out).mono ?_
    rintro e w2 ⟨A3, c3, A4, c4, rfl, i3, o4, b2⟩
    obtain ⟨W2, hW2⟩ : ∃ W2, W2 = w2.alloc (.cells #[.slice A3 (clos l n).length c3, .func (.func (ruleF all)) #[] #[], .slice A4 L.length c4] 74) := ⟨_, rfl⟩
    have e2 := btrans HE1.out b2
    have d2 : Below w2.heap.size w2 W2 := by rw [hW2]; exact (Below.refl _ _).alloc (Nat.le_refl _) _
    have hz2 : W2.heap.size = w2.heap.size + 1 := by rw [hW2]; simp
    have HE2 := Lib.hid (btrans e2 d2)
    have HK2 : Hid (Blk W2 w2.heap.size 74 #[.slice A3 (clos l n).length c3, .func (.func (ruleF all)) #[] #[], .slice A4 L.length c4]) := by show Blk _ _ _ _; rw [hW2]; exact Blk.new _ _ _
    have HO4 := Lib.hid (own_base (B' := w.heap.size) o4 HE1.out.size)
    have HL2 : Hid (Nums W2 (.slice A4 L.length c4) L) := (show Nums w2 _ _ from Reads.of_own o4).below d2
    have HRE2 := Lib.hid (HRE.out W2 _ _ HE2.out (i3.below d2) HL2.out)
    have HW2 := Lib.hid hW2
    obtain ⟨q0, q1, q2⟩ := blkW HK2.out
    rw [hW2] at q0 q1 q2
    have HGL : Hid (∀ g, (Value.slice A4 L.length c4).ownBlock = some g → w.heap.size ≤ g ∧ g < w2.heap.size) := fun g hg => (HO4.out.lt g hg)
    unfold watV at HRE2 ⊢
    clear p0 p1 b2 i3 o4 hW2 e2
    go_wp2_with fail
    rw [← HW2.out]
    refine HRE2.out.mono ?_
    rintro e w3 ⟨b, km, D, rfl, hbw, hmp, hat, b3⟩
    obtain ⟨W3, hW3⟩ : ∃ W3, W3 = w3.alloc (.cells #[.map (some b)] 81) := ⟨_, rfl⟩
    have d3 : Below w3.heap.size w3 W3 := by rw [hW3]; exact (Below.refl _ _).alloc (Nat.le_refl _) _
    have e3 : Below W2.heap.size W2 W3 := btrans b3 d3
    have hz3 := b3.size
    have HE3 := Lib.hid (btrans HE2.out e3)
    have HK3 : Hid (Blk W3 w3.heap.size 81 #[.map (some b)]) := by show Blk _ _ _ _; rw [hW3]; exact Blk.new _ _ _
    have HM3 : Hid (W3.ownsMap Tryd.prog 64 (plainElem Tryd.prog 3) b km D) := by show World.ownsMap _ _ _ _ _ _ _; rw [hW3]; exact hmp.alloc _
    have HK4 := Lib.hid (HK2.out.below e3 HK2.out.lt)
    have HO3 := Lib.hid (own_below (own_below HO4.out d2) e3)
    have HDEL := Lib.hid (deleteFuncU_own w.heap.size (.slice A4 L.length c4) L 63 #[.pointer (some ⟨w3.heap.size, 0, none⟩)] (fun x => !decide (resV n l all L x < 0)) (fun W => Blk W w3.heap.size 81 #[.map (some b)] ∧ W.ownsMap Tryd.prog 64 (plainElem Tryd.prog 3) b km D ∧ Below w.heap.size w W) W3 HO3.out (by omega)
      { go := fun W W' h1 h2 => ⟨h1.1.below h2 h1.1.lt, h1.2.1.kept (row := none) (gof h2 none) (by simp), btrans h1.2.2 h2⟩
        set := fun g hg W j u h => by
          have hgl := HGL.out g hg
          exact ⟨h.1.grown (gset (World.grownBy.refl W (some g)) j u) (by simp; omega), h.2.1.setCell (a := ⟨g, j, none⟩) (by show b ≠ g; omega) u, h.2.2.setCell (p := ⟨g, j, none⟩) hgl.1 u⟩ }
      { enter := fun _ _ => by kernel_rfl
        call := fun W hW x hx => efClo_any n x w3.heap.size b km all L l D W (hW.1.cell 0) hW.2.1 (hat x hx) hsl hx (HM8.out x hx) } ⟨HK3.out, HM3.out, HE3.out⟩)
    rw [HF.out] at HDEL
    have HW3 := Lib.hid hW3
    obtain ⟨r0, r1, r2⟩ := blkW HK4.out
    rw [hW3] at r0 r1 r2
    clear q0 q1 q2 hmp hat b3 hW3 d3 e3 hbw hz2 hz3 d2
    go_wp2_with fail
    rw [← HW3.out]
    refine HDEL.out.mono ?_
    rintro e w4 ⟨A5, c5, rfl, o5, -, -, -, b5⟩
    have HE4 := Lib.hid b5
    have HRS := Lib.hid (resultsNd_any (.slice A5 F.length c5) F w4 (show Nums w4 _ _ from Reads.of_own o5) HF8.out (by omega))
    clear b5 o5 r0 r1 r2
    by_cases hne : 0 < F.length
    · have hne' : (0 : Int) < (F.length : Int) := by omega
      have HY : Hid (EfOk (n : Int) l all (m : Int)) := ⟨HOK.out, by rw [HV.out]; exact List.length_pos_iff.1 hne⟩
      have hd : decide (0 < F.length) = true := decide_eq_true hne
      clear hne
      go_wp2_with fail
      refine HRS.out.mono ?_
      rintro e w5 ⟨A6, c6, us, rfl, o6, b6⟩
      go_wp2_with fail
      go_ret2
      rw [HV.out]
      have o7 := o6.base HE4.out.size
      rw [← rowN_len F]
      exact RetGr.yes HY.out o7 (btrans HE4.out b6)
    · obtain rfl : F = [] := List.length_eq_zero_iff.1 (by omega)
      have HY : Hid (¬ EfOk (n : Int) l all (m : Int)) := fun h => h.2 HV.out
      clear hne
      go_wp2_with fail
      refine HRS.out.mono ?_
      rintro e w5 ⟨A6, c6, us, rfl, o6, b6⟩
      go_wp2_with fail
      go_ret2
      have o7 := o6.base HE4.out.size
      have o8 := o7.1
      obtain rfl : us = [] := List.length_eq_zero_iff.1 o7.len
      exact RetGr.no HY.out o8 (btrans HE4.out b6)
  · rw [okG_no hok] at HN
    have HNO : Hid (¬ EfOk s l all k) := fun h => hok h.1
    clear hok
    go_enter Tryd.func27, Tryd.ntmps27
    go_wp2_with fail
    refine HN.out.mono ?_
    rintro e w1 ⟨rfl, b1⟩
    have HE1 := Lib.hid (btrans HB0.out b1)
    clear p0 p1 b1
    go_wp2_with fail
    go_ret2
    exact RetGr.nil HNO.out HE1.out
end Go.Proofs.YthpodbhiopnnbaaDoor.ups
