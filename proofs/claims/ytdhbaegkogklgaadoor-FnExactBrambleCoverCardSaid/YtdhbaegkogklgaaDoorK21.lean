/- Guards: the contract of the program's resistances. -/
import Derived.Handy
import Derived.Test.YtdhbaegkogklgaaDoorK20
import Derived.Test.YtdhbaegkogklgaaDoorK16
import Derived.Test.YtdhbaegkogklgaaDoorK17
import Derived.Test.YtdhbaegkogklgaaDoorK01
import Derived.Maps.OwnSet
import Derived.Maps.OwnOps
import Derived.Maps.Views
import Derived.Deep.DeepCutAuto
import Derived.Deep.RegionHeld3
import Derived.Deep.QuietTactic
import Derived.Test.YtdhbaegkogklgaaDoorK04
import Derived.Test.YtdhbaegkogklgaaDoorK13
import Derived.Test.YtdhbaegkogklgaaDoorK08
namespace Go.Proofs.YtdhbaegkogklgaaDoor.ups
open Go.RowKit Go.Maps P2 words edges ints good adjs fns sets rets covs bags bitsI func lists least near
set_option linter.unusedVariables false

theorem lawU : Keyed Tryd.prog 70 := int_keyed Tryd.underlying70
theorem wfU {a : Nat} (h : a < 256) : (Lit.int .u64 (a : Int)).wf = true := by
  show (decide ((0 : Int) ≤ (a : Int)) && decide ((a : Int) ≤ (18446744073709551615 : Int))) = true
  rw [Bool.and_eq_true, decide_eq_true_iff, decide_eq_true_iff]
  omega
theorem ukey {a : Nat} (h : a < 256) : keyOf Tryd.prog 70 (.int .u64 (a : Int)) = some (.int .u64 (a : Int)) := keyOf_int_mk Tryd.underlying70 (wfU h)
/-- what a table says of a set -/
def AtU (D : DataW Unit) (a : Nat) (v : Int) : Prop := D.atKey (.int .u64 (a : Int)) (.lit (.int .i64 0)) = .lit (.int .i64 v)
theorem AtU.same {D : DataW Unit} {a : Nat} (hD : IsMap D) (ha : a < 256) (v : Int) : AtU (D.put (.int .u64 (a : Int)) (.lit (.int .i64 v))) a v :=
  atKey_put_same hD (lawU.key (ukey ha)) _ _
theorem AtU.other {D : DataW Unit} {a c : Nat} {v u : Int} (h : AtU D a v) (hne : a ≠ c) : AtU (D.put (.int .u64 (c : Int)) (.lit (.int .i64 u))) a v := by
  unfold AtU
  rw [atKey_put_other (fun e => hne (by have := (Lit.int.injEq _ _ _ _ ▸ e); simp at e; omega))]
  exact h
/-- a row of words that is given, or the call's own -/
def RowAt (w wr : World) (v : Value) (U : List Nat) : Prop := (Nums w v U ∧ Below w.heap.size w wr) ∨ (wr.ownsRow w.heap.size 70 1 v U.length (cellsU U) ∧ Below w.heap.size w wr)
theorem RowAt.nums {w wr : World} {v : Value} {U : List Nat} (h : RowAt w wr v U) : Nums wr v U := by
  rcases h with ⟨h, hb⟩ | ⟨h, _⟩
  · exact h.below hb
  · exact Reads.of_own h
theorem RowAt.below {w wr wx : World} {v : Value} {U : List Nat} (h : RowAt w wr v U) (hb : Below wr.heap.size wr wx) : RowAt w wx v U := by
  rcases h with ⟨h, h2⟩ | ⟨h, h2⟩
  · exact .inl ⟨h, btrans h2 hb⟩
  · exact .inr ⟨own_below h hb, btrans h2 hb⟩
theorem own_map {w : World} {B b k : Nat} {v : Value} {xs : List Value} {n : Nat} {D : DataW Unit} (h : w.ownsRow B 70 1 v n xs) (hm : w.ownsMap Tryd.prog 70 (plainElem Tryd.prog 3) b k D) : v.ownBlock = none ∨ v.ownBlock ≠ some b := by
  rcases h.2 with ⟨rfl, _⟩ | ⟨g, cap, cur, rfl, _, hg, _⟩
  · exact .inl rfl
  · refine .inr fun e => ?_
    obtain ⟨es, clock, he, _⟩ := hm
    have : g = b := by simpa [Value.ownBlock] using e
    subst this
    rw [hg] at he
    cases he
theorem RowAt.mapped {w wr wx : World} {v : Value} {U : List Nat} {b k : Nat} {D : DataW Unit} (h : RowAt w wr v U) (hm : wr.ownsMap Tryd.prog 70 (plainElem Tryd.prog 3) b k D) (hb : w.heap.size ≤ b) (hg : wr.grownBy wx (some b)) : RowAt w wx v U := by
  have hx : ∀ {h2 : Below w.heap.size w wr}, Below w.heap.size w wx := fun {h2} => h2.grown hg h2.size (fun j e => by
    have : b = j := by simpa using e
    omega)
  rcases h with ⟨h, h2⟩ | ⟨h, h2⟩
  · exact .inl ⟨h, hx (h2 := h2)⟩
  · exact .inr ⟨h.kept hg (own_map h hm), hx (h2 := h2)⟩
/-- what the program's table says in the end -/
noncomputable def resP (n : Nat) (l : List Ed) (all : Bool) (L : List Nat) (a : Nat) : Int := if resV n l all L a < 0 then 9223372036854775807 else resV n l all L a
/-- the table before round t -/
def TabT (n : Nat) (l : List Ed) (all : Bool) (L : List Nat) (t : Nat) (D : DataW Unit) : Prop := ∀ a s, s < t → Dep n l all L a s → AtU D a (s : Int)
theorem TabT.done {n : Nat} {l : List Ed} {all : Bool} {L : List Nat} {t : Nat} {D : DataW Unit} (h : TabT n l all L t D) (hj : ∀ a ∈ usN n l all L t, AtU D a (t : Int)) : TabT n l all L (t + 1) D := fun a s hs hd => by
  by_cases e : s = t
  · subst e; exact hj a hd.1
  · exact h a s (by omega) hd
theorem TabT.put {n : Nat} {l : List Ed} {all : Bool} {L : List Nat} {t c : Nat} {u : Int} {D : DataW Unit} (h : TabT n l all L t D) (hc : c ∈ usN n l all L t) : TabT n l all L t (D.put (.int .u64 (c : Int)) (.lit (.int .i64 u))) := fun a s hs hd =>
  (h a s hs hd).other fun e => by
    subst e
    exact hd.2 (us_sub (t := s + 1) (d := t - (s + 1)) (by rw [show s + 1 + (t - (s + 1)) = t from by omega]; exact hc))
theorem first_put {U : List Nat} {j c : Nat} {u : Int} {D : DataW Unit} (hD : IsMap D) (h : ∀ a ∈ U.take j, AtU D a u) (hc : U[j]? = some c) (hc8 : c < 256) : ∀ a ∈ U.take (j + 1), AtU (D.put (.int .u64 (c : Int)) (.lit (.int .i64 u))) a u := fun a ha => by
  rw [List.take_add_one, hc, List.mem_append] at ha
  by_cases e : a = c
  · subst e; exact AtU.same hD hc8 u
  · rcases ha with ha | ha
    · exact (h a ha).other e
    · exact absurd (by simpa using ha) e
theorem tab_end {n : Nat} {l : List Ed} {all : Bool} {L : List Nat} {t : Nat} {D : DataW Unit} (hs : usN n l all L (t + 1) = usN n l all L t) (h : TabT n l all L t D) (hj : ∀ a ∈ usN n l all L t, AtU D a 9223372036854775807) : ∀ a ∈ L, AtU D a (resP n l all L a) := fun a ha => by
  unfold resP
  by_cases hin : a ∈ usN n l all L t
  · rw [resV_in hs hin]
    exact hj a hin
  · have hex : ∃ s, s < t ∧ Dep n l all L a s := by
      clear h hj hs
      induction t with
      | zero => exact absurd ha hin
      | succ t ih =>
        by_cases h2 : a ∈ usN n l all L t
        · exact ⟨t, Nat.lt_succ_self t, h2, hin⟩
        · obtain ⟨s, h3, h4⟩ := ih h2
          exact ⟨s, by omega, h4⟩
    obtain ⟨s, hst, hd⟩ := hex
    rw [resV_dep hd, if_neg (by omega)]
    exact h a s hst hd
set_option maxHeartbeats 2000000 in
set_option maxRecDepth 100000 in
theorem resClo_any (n a b1 : Nat) (all : Bool) (vc vs : Value) (L : List Nat) (l : List Ed) (w : World) (h1 : Blk w b1 67 #[vc, .func (.func (ruleF all)) #[] #[], vs]) (hE : Env w) (hc : Nums w vc (clos l n)) (hs : Nums w vs L) (hL : ∀ c ∈ L, c < 2 ^ n) (hLl : L.length ≤ 1048576) (hg : P2.Good (n : Int) l) (hn : n ≤ 8) (ha : a < 2 ^ n) :
    Calls Tryd.prog 99 #[.int .u64 (a : Int), .pointer (some ⟨b1, 0, none⟩)] w fun e w' => e = .returned (.bool (!holdB n l all L a)) ∧ Below w.heap.size w w' := by
  obtain ⟨p0, p1, p2⟩ := blkW h1
  have HI := Lib.hid (holds_any n a all vc vs L l w hE hc hs hL hLl hg hn ha)
  unfold watV at HI
  clear hE hc hs hL hg h1
  go_enter Tryd.func99, Tryd.ntmps99
  go_wp2_with fail
  refine HI.out.mono ?_
  rintro e w1 ⟨rfl, b1⟩
  go_wp2_with fail
  go_ret
  exact ⟨rfl, b1⟩
theorem RowAt.boxed {w wr : World} {v x : Value} {U : List Nat} {R i : Nat} {cs : Array Value} (h : RowAt w wr v U) (hb : Blk wr R 67 cs) (hR : w.heap.size ≤ R) : RowAt w (wr.setCell ⟨R, i, none⟩ x) v U := by
  rcases h with ⟨h, h2⟩ | ⟨h, h2⟩
  · exact .inl ⟨h, h2.setCell (p := ⟨R, i, none⟩) hR x⟩
  · exact .inr ⟨h.kept (gset (World.grownBy.refl wr (some R)) i x) (.inr (mids.own_ne h hb (by decide))), h2.setCell (p := ⟨R, i, none⟩) hR x⟩
theorem blk_map {w w' : World} {R b : Nat} {cs : Array Value} {t : TypeId} (hb : Blk w R t cs) (hg : w.grownBy w' (some b)) (hne : R ≠ b) : Blk w' R t cs := hb.grown hg (by simpa using hne)
set_option maxHeartbeats 8000000 in
set_option maxRecDepth 100000 in
theorem resistances_any (n : Nat) (all : Bool) (vc vs : Value) (L : List Nat) (l : List Ed) (w : World) (hE : Env w) (hc : Nums w vc (clos l n)) (hs : Nums w vs L) (hL : ∀ c ∈ L, c < 2 ^ n) (hLl : L.length ≤ 256) (hg : P2.Good (n : Int) l) (hn : n ≤ 8) :
    Calls Tryd.prog 47 #[watV all vc vs] w fun e w' => ∃ b k D, e = .returned (.map (some b)) ∧ w.heap.size ≤ b ∧ w'.ownsMap Tryd.prog 70 (plainElem Tryd.prog 3) b k (D : DataW Unit) ∧ (∀ a ∈ L, AtU D a (resP n l all L a)) ∧ Below w.heap.size w w' := by
  have hmf : ∀ (fn : Fn) (first cap : Array Value) (w : World), (Instr.makeFunc fn first cap).run Tryd.prog w = .ok (.func fn first cap) w := fun _ _ _ _ => rfl
  have hmm := @run_makeMap Tryd.prog
  obtain ⟨As, cs, rfl, -⟩ := hs.form
  obtain ⟨W0, hW0⟩ : ∃ W0, W0 = (w.alloc (.cells #[vc, .func (.func (ruleF all)) #[] #[], .slice As L.length cs] 67)).alloc (.map #[] 0) := ⟨_, rfl⟩
  have b0 : Below w.heap.size w W0 := by rw [hW0]; exact ((Below.refl _ _).alloc (Nat.le_refl _) _).alloc (by simp) _
  have g1 : Blk W0 w.heap.size 67 #[vc, .func (.func (ruleF all)) #[] #[], .slice As L.length cs] := by rw [hW0]; exact (Blk.new w 67 #[vc, .func (.func (ruleF all)) #[] #[], .slice As L.length cs]).alloc _
  have M0 : W0.ownsMap Tryd.prog 70 (plainElem Tryd.prog 3) (w.heap.size + 1) 0 (.map [] : DataW Unit) := by
    have h_ := World.ownsMap_made (H := Unit) (w.alloc (.cells #[vc, .func (.func (ruleF all)) #[] #[], .slice As L.length cs] 67)) Tryd.prog 70 (plainElem Tryd.prog 3)
    rw [World.size_alloc] at h_
    rw [hW0]; exact h_
  have HC := Lib.hid hc
  have HEN := Lib.hid hE
  have HGD := Lib.hid hg
  have HLM := Lib.hid hL
  have HR0 : Hid (RowAt w W0 (.slice As L.length cs) (usN n l all L 0)) := .inl ⟨hs, b0⟩
  have HB0 := Lib.hid b0
  have HG1 := Lib.hid g1
  have HM0 := Lib.hid M0
  have HW0 := Lib.hid hW0
  have HUM : Hid (∀ t, ∀ c ∈ usN n l all L t, c < 2 ^ n) := fun t c h => hL c (us_mem h)
  have HUL : Hid (∀ t, (usN n l all L t).length ≤ 256) := fun t => by
    induction t with
    | zero => exact hLl
    | succ t ih => exact Nat.le_trans (us_len t) ih
  have HG0 : Hid (Goes n l all L 0 ∧ TabT n l all L 0 (.map [])) := ⟨Goes.zero n l all L, fun a s h => by omega⟩
  have HPW := Lib.hid (pow_le hn)
  have HUF : Hid (∀ t, (usN n l all L t).filter (fun x => !!holdB n l all (usN n l all L t) x) = usN n l all L (t + 1)) := fun t => by
    show _ = (usN n l all L t).filter _
    congr 1; funext x; rw [Bool.not_not]
  obtain ⟨p0, p1, p2⟩ := blkW g1
  rw [hW0] at p0 p1 p2
  have HL0 : Hid (L.length = (usN n l all L 0).length) := rfl
  unfold watV
  clear hE hc hs hL hg b0 g1 M0 hW0
  go_enter Tryd.func47, Tryd.ntmps47
  go_wp2_with fail
  rw [← HW0.out]
  clear p0 p1 p2
  go_loopg [4] (L.length + 1) (fun g tv wr => ∃ (t k : Nat) (D : DataW Unit) (At : Option Addr) (ct : Nat), t + g = L.length + 1 ∧ tv = .int .i64 (t : Int) ∧ Hid (Goes n l all L t ∧ TabT n l all L t D) ∧ k ≤ t * 256 ∧ Blk wr w.heap.size 67 #[vc, .func (.func (ruleF all)) #[] #[], .slice At (usN n l all L t).length ct] ∧ Hid (RowAt w wr (.slice At (usN n l all L t).length ct) (usN n l all L t)) ∧ wr.ownsMap Tryd.prog 70 (plainElem Tryd.prog 3) (w.heap.size + 1) k D ∧ Below w.heap.size w wr)
  case atStart => exact ⟨0, 0, _, As, cs, by omega, rfl, HG0, by omega, HG1.out, HR0, HM0.out, HB0.out⟩
  case round =>
    clear HG0 HG1 HR0 HM0 HB0
    obtain ⟨t, k, D, At, ct, htg, rfl, hgo, hk, hgb, hra, hmp, hB⟩ := hrel
    obtain ⟨p0, p1, p2⟩ := blkW hgb
    have HB := Lib.hid hB
    have HG := Lib.hid hgb
    have HM := Lib.hid hmp
    have hul := HUL.out t
    have htl : t ≤ L.length := by have := hgo.out.1; unfold Goes at this; omega
    obtain ⟨g2, rfl⟩ : ∃ g2, gk = g2 + 1 := ⟨gk - 1, by omega⟩
    have HCL := Lib.hid (cloneC_any (.slice At (usN n l all L t).length ct) (usN n l all L t) wr hra.out.nums (by omega))
    have HDEL := Lib.hid (fun (A2 : Option Addr) (c2 : Nat) (w2 : World) (o2 : w2.ownsRow wr.heap.size 70 1 (.slice A2 (usN n l all L t).length c2) (usN n l all L t).length (cellsU (usN n l all L t))) (b2 : Below wr.heap.size wr w2) =>
      deleteFuncU_own wr.heap.size (.slice A2 (usN n l all L t).length c2) (usN n l all L t) 99 #[.pointer (some ⟨w.heap.size, 0, none⟩)] (fun x => !holdB n l all (usN n l all L t) x) (fun W => Below wr.heap.size wr W) w2 o2 (by omega)
      { go := fun W W' h1 h2 => h1.trans (h2.mono h1.size)
        set := fun g hg W j u h => h.setCell (p := ⟨g, j, none⟩) (o2.lt g hg).1 u }
      { enter := fun _ _ => by kernel_rfl
        call := fun W hW a ha => resClo_any n a w.heap.size all vc (.slice At (usN n l all L t).length ct) (usN n l all L t) l W (HG.out.below hW HG.out.lt) (HEN.out.next (btrans HB.out hW)) (HC.out.below (btrans HB.out hW)) ((hra.out.below hW).nums) (HUM.out t) (by omega) HGD.out hn (HUM.out t a ha) } b2)
    rw [HUF.out t] at HDEL
    have hun := us_len (n := n) (l := l) (all := all) (L := L) t
    have HFX := Lib.hid (us_fix (n := n) (l := l) (all := all) (L := L) (t := t))
    have HUMt := Lib.hid (HUM.out t)
    have HTE := Lib.hid (fun (D : DataW Unit) (hs : usN n l all L (t + 1) = usN n l all L t) => tab_end (D := D) hs)
    have HGN := Lib.hid (hgo.out.1.next)
    have HDN := Lib.hid (fun (D : DataW Unit) => TabT.done (n := n) (l := l) (all := all) (L := L) (t := t) (D := D))
    have HPT := Lib.hid (fun (c : Nat) (u : Int) (D : DataW Unit) => TabT.put (n := n) (l := l) (all := all) (L := L) (t := t) (c := c) (u := u) (D := D))
    generalize usN n l all L t = U at *
    generalize hVE : usN n l all L (t + 1) = V at *
    have HVE := Lib.hid hVE
    clear hVE
    clear hgb hmp
    go_wp2_with fail
    refine HCL.out.mono ?_
    rintro e w2 ⟨A2, c2, rfl, o2, b2⟩
    have HD2 := Lib.hid (HDEL.out A2 c2 w2 o2 b2)
    have HG2 := Lib.hid (HG.out.below b2 HG.out.lt)
    clear p0 p1 p2 o2 b2
    obtain ⟨p0, p1, p2⟩ := blkW HG2.out
    go_wp2_with fail
    refine HD2.out.mono ?_
    rintro e w3 ⟨A3, c3, rfl, o3, -, hk3⟩
    have HG3 := Lib.hid (HG.out.below hk3 HG.out.lt)
    have HB3 := Lib.hid (btrans HB.out hk3)
    have HM3 : Hid (w3.ownsMap Tryd.prog 70 (plainElem Tryd.prog 3) (w.heap.size + 1) k D) := HM.out.kept (row := none) (gof hk3 none) (by simp)
    have HRU := Lib.hid (hra.out.below hk3)
    have HRV : Hid (RowAt w w3 (.slice A3 V.length c3) V) := .inr ⟨own_base o3 HB.out.size, HB3.out⟩
    clear p0 p1 p2 o3 hk3
    obtain ⟨p0, p1, p2⟩ := blkW HG3.out
    by_cases hlen : V.length = U.length
    · have HVU := Lib.hid (HFX.out hlen)
      have hq1 : ((V.length : Int) == (U.length : Int)) = true := by rw [hlen]; simp
      have hq2 : (V.length == U.length) = true := by rw [hlen]; simp
      clear hlen
      go_wp2_with fail
      have HTT : Hid (TabT n l all L t D ∧ ∀ a ∈ U.take 0, AtU D a 9223372036854775807) := ⟨hgo.out.2, fun a ha => by simp at ha⟩
      clear p0 p1 p2 hgo
      go_loopg [9, 40] U.length (fun g _ iv wr => ∃ (j k2 : Nat) (D2 : DataW Unit), j + g = U.length ∧ iv = .int .i64 (j : Int) ∧ Hid (TabT n l all L t D2 ∧ ∀ a ∈ U.take j, AtU D2 a 9223372036854775807) ∧ k2 ≤ k + j ∧ wr.ownsMap Tryd.prog 70 (plainElem Tryd.prog 3) (w.heap.size + 1) k2 D2 ∧ Blk wr w.heap.size 67 #[vc, .func (.func (ruleF all)) #[] #[], .slice At U.length ct] ∧ Hid (RowAt w wr (.slice At U.length ct) U) ∧ Hid (RowAt w wr (.slice A3 V.length c3) V) ∧ Below w.heap.size w wr)
      case atStart => exact ⟨0, k, D, by omega, rfl, HTT, by omega, HM3.out, HG3.out, HRU, HRV, HB3.out⟩
      case round =>
        clear HTT HM3 HG3 HRU HRV HB3
        obtain ⟨j, k2, D2, hjg, rfl, htb, hk2, hmp, hgb, hru, hrv, hB⟩ := hrel
        obtain ⟨p0, p1, p2⟩ := blkW hgb
        have HB := Lib.hid hB
        have HG := Lib.hid hgb
        have hsz := hB.size
        cases gk with
        | zero =>
          obtain rfl : j = U.length := by omega
          have HT2 := Lib.hid (HTE.out D2 HVU.out htb.out.1 (fun a ha => htb.out.2 a (by rw [List.take_length]; exact ha)))
          have HM6 := Lib.hid hmp
          clear hgb hmp hB htb hru hrv
          go_wp2_with fail
          first | go_ret | (rw [Exit.noGoto_ret]; go_ret)
          exact ⟨_, k2, D2, rfl, Nat.le_succ _, HM6.out, HT2.out, HB.out⟩
        | succ g3 =>
          have hlt : j < U.length := by omega
          have hlt' : (j : Int) < (U.length : Int) := by omega
          obtain ⟨a, ha⟩ : ∃ a, U[j]? = some a := ⟨_, List.getElem?_eq_getElem hlt⟩
          have ham := List.mem_of_getElem? ha
          have ha8 : a < 256 := by have := HUMt.out a ham; have := HPW.out; omega
          obtain ⟨_, _, hfx, hcx⟩ := hru.out.nums.form
          cases hfx
          obtain ⟨g5, o5, rfl, c5⟩ := hcx j a ha
          have HK := Lib.hid (ukey ha8)
          have HTB2 : Hid (TabT n l all L t (D2.put (.int .u64 (a : Int)) (.lit (.int .i64 9223372036854775807))) ∧ ∀ x ∈ U.take (j + 1), AtU (D2.put (.int .u64 (a : Int)) (.lit (.int .i64 9223372036854775807))) x 9223372036854775807) := ⟨HPT.out a 9223372036854775807 D2 htb.out.1 ham, first_put hmp.isMap htb.out.2 ha ha8⟩
          have HWF : Hid ((Lit.int .i64 (9223372036854775807 : Int)).wf = true) := rfl
          have HMP := Lib.hid hmp
          clear ha ham hcx hgb hB
          go_wp2_with (at_mapUpdate; refine wpList_mapUpdate_own _ rfl _ _ _ 72 rfl 70 3 lawU Tryd.underlying72 _ (w.heap.size + 1) k2 _ rfl hmp (by unfold maxLen; omega) _ _ _ rfl rfl HK.out _ [] (plainElem_int Tryd.underlying3 HWF.out) ?_; intro w5 hown5 hgrow5)
          have HM5 := Lib.hid hown5
          have HG5 := Lib.hid (blk_map HG.out hgrow5 (by omega))
          have HRU5 := Lib.hid (hru.out.mapped HMP.out (by omega) hgrow5)
          have HRV5 := Lib.hid (hrv.out.mapped HMP.out (by omega) hgrow5)
          have HB5 := Lib.hid (HB.out.grown hgrow5 HB.out.size (fun i e => by simp at e; omega))
          clear hown5 hgrow5 p0 p1 p2 c5 hmp
          go_roundg g3
          case measure => omega
          case rel => exact ⟨j + 1, k2 + 1, _, by omega, by go_num, HTB2, by omega, HM5.out, HG5.out, HRU5, HRV5, HB5.out⟩
    · have hq1 : ((V.length : Int) == (U.length : Int)) = false := by rw [beq_eq_false_iff_ne]; omega
      have hq2 : (V.length == U.length) = false := by rw [beq_eq_false_iff_ne]; exact hlen
      have HGX := Lib.hid (HGN.out hlen)
      clear hlen
      go_wp2_with fail
      have HTT : Hid (TabT n l all L t D ∧ ∀ a ∈ U.take 0, AtU D a (t : Int)) := ⟨hgo.out.2, fun a ha => by simp at ha⟩
      clear p0 p1 p2 hgo
      go_loopg [7, 27] U.length (fun g _ iv wr => ∃ (j k2 : Nat) (D2 : DataW Unit), j + g = U.length ∧ iv = .int .i64 (j : Int) ∧ Hid (TabT n l all L t D2 ∧ ∀ a ∈ U.take j, AtU D2 a (t : Int)) ∧ k2 ≤ k + j ∧ wr.ownsMap Tryd.prog 70 (plainElem Tryd.prog 3) (w.heap.size + 1) k2 D2 ∧ Blk wr w.heap.size 67 #[vc, .func (.func (ruleF all)) #[] #[], .slice At U.length ct] ∧ Hid (RowAt w wr (.slice At U.length ct) U) ∧ Hid (RowAt w wr (.slice A3 V.length c3) V) ∧ Below w.heap.size w wr)
      case atStart => exact ⟨0, k, D, by omega, rfl, HTT, by omega, HM3.out, HG3.out, HRU, HRV, HB3.out⟩
      case round =>
        clear HTT HM3 HG3 HRU HRV HB3
        obtain ⟨j, k2, D2, hjg, rfl, htb, hk2, hmp, hgb, hru, hrv, hB⟩ := hrel
        obtain ⟨p0, p1, p2⟩ := blkW hgb
        have HB := Lib.hid hB
        have HG := Lib.hid hgb
        have hsz := hB.size
        cases gk with
        | zero =>
          obtain rfl : j = U.length := by omega
          have HT2 := Lib.hid (HDN.out D2 htb.out.1 (fun a ha => htb.out.2 a (by rw [List.take_length]; exact ha)))
          have y2 := hgb.frozen 2
          have HG6 : Hid (Blk (wr.setCell ⟨w.heap.size, 2, none⟩ (.slice A3 V.length c3)) w.heap.size 67 #[vc, .func (.func (ruleF all)) #[] #[], .slice A3 V.length c3]) := by
            have h_ := hgb.set_ 2 (.slice A3 V.length c3)
            show Blk _ _ _ _
            simpa using h_
          have HRV6 := Lib.hid (hrv.out.boxed (i := 2) (x := .slice A3 V.length c3) hgb (Nat.le_refl _))
          have HM6 := Lib.hid (hmp.setCell (a := ⟨w.heap.size, 2, none⟩) (by show w.heap.size + 1 ≠ w.heap.size; omega) (.slice A3 V.length c3))
          have HB6 := Lib.hid (hB.setCell (p := ⟨w.heap.size, 2, none⟩) (Nat.le_refl _) (.slice A3 V.length c3))
          clear hgb hmp hB htb hru hrv
          go_wp2_with fail
          go_roundg g2
          case measure => omega
          case rel =>
            refine ⟨t + 1, k2, D2, A3, c3, by omega, by go_num, ⟨HGX.out, HT2.out⟩, by omega, ?_⟩
            rw [HVE.out]
            exact ⟨HG6.out, HRV6, HM6.out, HB6.out⟩
        | succ g3 =>
          have hlt : j < U.length := by omega
          have hlt' : (j : Int) < (U.length : Int) := by omega
          obtain ⟨a, ha⟩ : ∃ a, U[j]? = some a := ⟨_, List.getElem?_eq_getElem hlt⟩
          have ham := List.mem_of_getElem? ha
          have ha8 : a < 256 := by have := HUMt.out a ham; have := HPW.out; omega
          obtain ⟨_, _, hfx, hcx⟩ := hru.out.nums.form
          cases hfx
          obtain ⟨g5, o5, rfl, c5⟩ := hcx j a ha
          have HK := Lib.hid (ukey ha8)
          have HTB2 : Hid (TabT n l all L t (D2.put (.int .u64 (a : Int)) (.lit (.int .i64 (t : Int)))) ∧ ∀ x ∈ U.take (j + 1), AtU (D2.put (.int .u64 (a : Int)) (.lit (.int .i64 (t : Int)))) x (t : Int)) := ⟨HPT.out a (t : Int) D2 htb.out.1 ham, first_put hmp.isMap htb.out.2 ha ha8⟩
          have HWF : Hid ((Lit.int .i64 ((t : Int) : Int)).wf = true) := wf64 ⟨by omega, by omega⟩
          have HMP := Lib.hid hmp
          clear ha ham hcx hgb hB
          go_wp2_with (at_mapUpdate; refine wpList_mapUpdate_own _ rfl _ _ _ 72 rfl 70 3 lawU Tryd.underlying72 _ (w.heap.size + 1) k2 _ rfl hmp (by unfold maxLen; omega) _ _ _ rfl rfl HK.out _ [] (plainElem_int Tryd.underlying3 HWF.out) ?_; intro w5 hown5 hgrow5)
          have HM5 := Lib.hid hown5
          have HG5 := Lib.hid (blk_map HG.out hgrow5 (by omega))
          have HRU5 := Lib.hid (hru.out.mapped HMP.out (by omega) hgrow5)
          have HRV5 := Lib.hid (hrv.out.mapped HMP.out (by omega) hgrow5)
          have HB5 := Lib.hid (HB.out.grown hgrow5 HB.out.size (fun i e => by simp at e; omega))
          clear hown5 hgrow5 p0 p1 p2 c5 hmp
          go_roundg g3
          case measure => omega
          case rel => exact ⟨j + 1, k2 + 1, _, by omega, by go_num, HTB2, by omega, HM5.out, HG5.out, HRU5, HRV5, HB5.out⟩
end Go.Proofs.YtdhbaegkogklgaaDoor.ups

/- The contract of the program's resultsOf with numbers. -/
namespace Go.Proofs.YtdhbaegkogklgaaDoor.ups
open Go.RowKit P2 words edges ints good adjs fns sets rets covs bitsI func
set_option linter.unusedVariables false

/-- a function value that returns numbers for the elements of a list of words, in every world that goes on from w -/
structure FnN (w : World) (f : FuncId) (caps : Array Value) (xs : List Nat) (F : Nat → Int) : Prop where
  enter : ∀ (args : Array Value) (W : World), (callFunc f args).run Tryd.prog W = .ok (.enter f args) W
  call : ∀ W, Below w.heap.size w W → ∀ x ∈ xs, Calls Tryd.prog f (#[.int .u64 (x : Int)] ++ caps) W fun e W' => e = .returned (.int .i64 (F x)) ∧ Below W.heap.size W W'
theorem FnN.on {w w' : World} {f : FuncId} {caps : Array Value} {xs : List Nat} {F : Nat → Int} (h : FnN w f caps xs F) (hb : Below w.heap.size w w') : FnN w' f caps xs F :=
  { enter := h.enter, call := fun W hW x hx => h.call W (btrans hb hW) x hx }
/-- so many numbers are there -/
def numT (L : List Nat) (F : Nat → Int) (k : Nat) : List Int := (L.take k).map F ++ List.replicate (L.length - k) 0
theorem numT_len (L : List Nat) (F : Nat → Int) {k : Nat} (h : k ≤ L.length) : (numT L F k).length = L.length := by simp [numT]; omega
theorem numT_zero (L : List Nat) (F : Nat → Int) : numT L F 0 = List.replicate L.length 0 := by simp [numT]
theorem numT_all (L : List Nat) (F : Nat → Int) : numT L F L.length = L.map F := by simp [numT]
theorem numT_succ {L : List Nat} {F : Nat → Int} {k c : Nat} (h : L[k]? = some c) : (numT L F k).set k (F c) = numT L F (k + 1) := by
  have hk := (List.getElem?_eq_some_iff.1 h).1
  have hl : ((L.take k).map F).length = k := by rw [List.length_map, List.length_take]; omega
  unfold numT
  obtain ⟨m, hm⟩ : ∃ m, L.length - k = m + 1 := ⟨L.length - k - 1, by omega⟩
  rw [List.set_append, if_neg (by omega), hl, Nat.sub_self, hm, List.replicate_succ, List.set_cons_zero, List.take_add_one, h, show L.length - (k + 1) = m from by omega, List.map_append, List.append_assoc]
  rfl
end Go.Proofs.YtdhbaegkogklgaaDoor.ups

/- Guards: the contracts of the program's hasGuards and GuardSets. -/
namespace Go.Proofs.YtdhbaegkogklgaaDoor.ups
open Go.RowKit P2 words edges ints owns good adjs fns sets rets covs bitsI func grid gridl
set_option linter.unusedVariables false

/-- a valid Graph and a number of guards in it -/
def GrdOk (s : Int) (l : List Ed) (k : Int) : Prop := P2.Good s l ∧ 0 ≤ k ∧ k ≤ s
def gsL (s k : Int) : List (List Int) := rowN (setsK s.toNat k.toNat)
theorem gs_len (s k : Int) (l : List Ed) : gridl.tot (gdG (GrdOk s l k) (gsL s k)) ≤ 1048576 ∧ (gdG (GrdOk s l k) (gsL s k)).length ≤ 1048576 := by
  by_cases h : GrdOk s l k
  · rw [gdG_yes h]
    have h8 := h.1.2.1
    have hk := h.2.2
    have h1 := setsK_len (n := s.toNat) (k := k.toNat) (by omega) (by omega)
    have h2 : ∀ r ∈ gsL s k, r.length ≤ 8 := fun r hr => by
      obtain ⟨c, hc, rfl⟩ := List.mem_map.1 hr
      exact nw_len _ _
    have h3 : gridl.tot (gsL s k) ≤ (gsL s k).length * 8 := by
      unfold gridl.tot
      generalize gsL s k = rows at h2 ⊢
      induction rows with
      | nil => simp
      | cons r rs ih =>
        have := ih (fun r hr => h2 r (List.mem_cons_of_mem _ hr))
        have := h2 r List.mem_cons_self
        simp only [List.map_cons, List.sum_cons, List.length_cons]
        omega
    have h4 : (gsL s k).length = (setsK s.toNat k.toNat).length := rowN_len _
    omega
  · rw [gdG_no h]; simp [gridl.tot]
end Go.Proofs.YtdhbaegkogklgaaDoor.ups

/- Guards: the contract of the program's Resistances. -/
namespace Go.Proofs.YtdhbaegkogklgaaDoor.ups
open Go.RowKit Go.Maps P2 words edges ints good adjs fns sets rets covs bags bitsI func lists least near
set_option linter.unusedVariables false

/-- the resistances of all sets -/
noncomputable def rsvL (s : Int) (l : List Ed) (all : Bool) (k : Int) : List Int := (setsK s.toNat k.toNat).map (resV s.toNat l all (setsK s.toNat k.toNat))
theorem resP_back {n : Nat} {l : List Ed} {all : Bool} {L : List Nat} {a : Nat} (hL : L.length ≤ 256) (ha : a ∈ L) : resV n l all L a < 9223372036854775807 ∧ -1 ≤ resV n l all L a := by
  by_cases h : ∃ t, Dep n l all L a t
  · obtain ⟨t, ht⟩ := h
    rw [resV_dep ht]
    have : ∀ t, (usN n l all L (t + 1)).length < (usN n l all L t).length → t < L.length := by
      intro t h1
      have h2 : ∀ s, s ≤ t → (usN n l all L s).length + s ≤ L.length := by
        intro s
        induction s with
        | zero => intro _; exact Nat.le_refl _
        | succ s ih =>
          intro hs
          have h3 := ih (by omega)
          have h4 := us_len (n := n) (l := l) (all := all) (L := L) s
          by_cases h5 : (usN n l all L (s + 1)).length = (usN n l all L s).length
          · have h6 := us_stable (us_fix h5) (t - s)
            have h7 := us_stable (us_fix h5) (t + 1 - s)
            rw [show s + (t - s) = t from by omega] at h6
            rw [show s + (t + 1 - s) = t + 1 from by omega] at h7
            rw [h6, h7] at h1
            omega
          · omega
      have := h2 t (Nat.le_refl _)
      omega
    have hne : (usN n l all L (t + 1)).length < (usN n l all L t).length := by
      have h1 := us_len (n := n) (l := l) (all := all) (L := L) t
      by_cases e : (usN n l all L (t + 1)).length = (usN n l all L t).length
      · have := us_fix e
        exact absurd (this ▸ ht.1) ht.2
      · omega
    have := this t hne
    omega
  · unfold resV
    rw [okG_no h]
    simp
end Go.Proofs.YtdhbaegkogklgaaDoor.ups

/- The contract of the program's LeastSpreading. -/
namespace Go.Proofs.YtdhbaegkogklgaaDoor.ups
open Go.RowKit P2 words edges ints good adjs fns sets rets covs bags bitsI func
set_option linter.unusedVariables false

/-- a set is spreading -/
noncomputable def fullB (n : Nat) (l : List Ed) (r c : Nat) : Bool := spN n l r c == 2 ^ n - 1
theorem full_all (n : Nat) (l : List Ed) (r : Nat) : fullB n l r (2 ^ n - 1) = true := by
  unfold fullB
  rw [spN_is Spr.base (full_stops rfl)]
  simp
noncomputable def lspN (n : Nat) (l : List Ed) (r : Nat) : Nat := bestC (fullB n l r) rkMin n
theorem beq_cast (a b : Nat) : (((a : Nat) : Int) == ((b : Nat) : Int)) = (a == b) := by
  rw [Bool.eq_iff_iff, beq_iff_eq, beq_iff_eq]; omega
end Go.Proofs.YtdhbaegkogklgaaDoor.ups

/- The contracts of the program's ballsIn, isFar, IsFarSet, largestFar, LargestFarSet and FarBound. -/
namespace Go.Proofs.YtdhbaegkogklgaaDoor.ups
open Go.RowKit P2 words edges ints good adjs fns sets rets covs bags bitsI func
set_option linter.unusedVariables false

theorem bne_cast (a b : Nat) : (((a : Nat) : Int) != ((b : Nat) : Int)) = !(a == b) := by
  show (!(((a : Nat) : Int) == ((b : Nat) : Int))) = _
  rw [beq_cast]
/-- another node of the set is in the ball -/
def farQ (l : List Ed) (n r c : Nat) (x : Int) : Bool := !(bN l n x.toNat r &&& c == 2 ^ x.toNat)
def FarOk (s : Int) (l : List Ed) (xs : List Int) (k : Int) : Prop := NumOk s l k ∧ SetOk s l xs
noncomputable def farV (s : Int) (l : List Ed) (xs : List Int) (k : Int) : Bool := okG (FarOk s l xs k ∧ farB l s.toNat (2 * k.toNat - 2) (codeL xs) = true)
end Go.Proofs.YtdhbaegkogklgaaDoor.ups
