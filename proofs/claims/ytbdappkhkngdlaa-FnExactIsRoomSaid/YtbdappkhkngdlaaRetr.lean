/- Retractions: the contracts of the program's isRetractionOf and of the model's l3Retracts. -/
import Derived.Test.YtbdappkhkngdlaaFunc
import Derived.Test.YtbdappkhkngdlaaClosed
import Derived.Test.YtbdappkhkngdlaaCorS
import Derived.Deep.RegionWith
namespace Go.Proofs.Ytbdappkhkngdlaa.retr
open Go.RowKit P2 words edges ints good adjs fns sets rets covs bitsI func
set_option linter.unusedVariables false

def at_ (tl : List Int) (x : Int) : Int := tl.getD x.toNat 0
theorem at_eq {tl : List Int} {m : Nat} {y : Int} (h : tl[m]? = some y) : at_ tl (m : Int) = y := by simp [at_, List.getD_eq_getElem?_getD, h]
/-- a list is a retraction of a valid Graph -/
def RetrP (n : Nat) (l : List Ed) (tl : List Int) : Prop :=
  tl.length = n ∧ (∀ x ∈ tl, 0 ≤ x ∧ x < (n : Int)) ∧ (∀ x ∈ tl, at_ tl x = x) ∧ ∀ e ∈ l, at_ tl e.1 = at_ tl e.2 ∨ adj l (at_ tl e.1) (at_ tl e.2) = true
def movedB (tl : List Int) (x : Int) : Bool := at_ tl x != x
def tornB (l : List Ed) (tl : List Int) (e : Ed) : Bool := !(cloB l (at_ tl e.1).toNat).testBit (at_ tl e.2).toNat
theorem at_mem {tl : List Int} {n : Nat} {x : Int} (hl : tl.length = n) (h0 : 0 ≤ x) (h1 : x < (n : Int)) : at_ tl x ∈ tl := by
  unfold at_
  rw [List.getD_eq_getElem?_getD, List.getElem?_eq_getElem (by omega)]
  exact List.getElem_mem _
theorem tornB_eq {n : Nat} {l : List Ed} {tl : List Int} {e : Ed} (hg : P2.Good n l) (hl : tl.length = n) (hn : ∀ x ∈ tl, 0 ≤ x ∧ x < (n : Int)) (he : e ∈ l) :
    tornB l tl e = true ↔ ¬ (at_ tl e.1 = at_ tl e.2 ∨ adj l (at_ tl e.1) (at_ tl e.2) = true) := by
  have hm := hg.mem he
  have h1 := hn _ (at_mem (x := e.1) hl (by omega) (by omega))
  have h2 := hn _ (at_mem (x := e.2) hl (by omega) (by omega))
  unfold tornB
  rw [cloB_bit hg, show (((at_ tl e.1).toNat : Nat) : Int) = at_ tl e.1 from by omega, show (((at_ tl e.2).toNat : Nat) : Int) = at_ tl e.2 from by omega]
  simp only [Bool.not_eq_true', Bool.or_eq_false_iff, beq_eq_false_iff_ne, ne_eq, not_or, Bool.not_eq_true]
  constructor
  · rintro ⟨a, b⟩; exact ⟨fun e => a (by rw [e]), b⟩
  · rintro ⟨a, b⟩; exact ⟨fun e => a (by omega), b⟩
theorem retr_eq {n : Nat} {l : List Ed} {tl : List Int} (hg : P2.Good n l) (hl : tl.length = n) (hn : ∀ x ∈ tl, 0 ≤ x ∧ x < (n : Int)) :
    okG (RetrP n l tl) = (!tl.any (movedB tl) && !l.any (tornB l tl)) := by
  rw [Bool.eq_iff_iff, okG_iff]
  unfold RetrP
  simp only [Bool.and_eq_true, Bool.not_eq_true', List.any_eq_false, movedB, bne_iff_ne, ne_eq, Classical.not_not]
  constructor
  · rintro ⟨_, _, h3, h4⟩
    exact ⟨h3, fun e he hh => (tornB_eq hg hl hn he).1 hh (h4 e he)⟩
  · rintro ⟨h3, h4⟩
    exact ⟨hl, hn, h3, fun e he => Classical.byContradiction fun hh => h4 e he ((tornB_eq hg hl hn he).2 hh)⟩

set_option maxHeartbeats 1000000 in
theorem retrClo1_any (m bt : Nat) (A : Option Addr) (c : Nat) (tl : List Int) (w : World) (ht : w.cell? ⟨bt, 0, none⟩ = some (.slice A tl.length c)) (hu : Ints w (.slice A tl.length c) tl) (hm : m < tl.length) :
    Calls Try.prog 98 #[.int .i64 (m : Int), .pointer (some ⟨bt, 0, none⟩)] w fun e w' => e = .returned (.bool (movedB tl (m : Int))) ∧ w = w' := by
  obtain ⟨_, _, hf, hc⟩ := hu.form
  cases hf
  obtain ⟨y, hy⟩ : ∃ y, tl[m]? = some y := ⟨_, List.getElem?_eq_getElem hm⟩
  obtain ⟨g, o, rfl, c0⟩ := hc m y hy
  have hm' : (m : Int) < (tl.length : Int) := by omega
  have HV : Hid (movedB tl (m : Int) = (y != (m : Int))) := by show _ = _; unfold movedB; rw [at_eq hy]
  clear hy hc hu
  go_enter Try.func98, Try.ntmps98
  go_wp2_with fail
  go_ret
  exact ⟨ret_bool HV.out.symm, rfl⟩
set_option maxHeartbeats 2000000 in
theorem retrClo2_any (p q n bc bt : Nat) (A Ac : Option Addr) (c cc : Nat) (l : List Ed) (tl : List Int) (w : World) (ht : w.cell? ⟨bt, 0, none⟩ = some (.slice A tl.length c)) (hu : Ints w (.slice A tl.length c) tl)
    (hcl : w.cell? ⟨bc, 0, none⟩ = some (.slice Ac (clos l n).length cc)) (hcc : Nums w (.slice Ac (clos l n).length cc) (clos l n)) (hl : tl.length = n) (hn : ∀ x ∈ tl, 0 ≤ x ∧ x < (n : Int)) (hg : P2.Good n l) (hp : p < n) (hq : q < n) (hn8 : n ≤ 8) :
    Calls Try.prog 100 #[.agg #[.int .i64 (p : Int), .int .i64 (q : Int)], .pointer (some ⟨bc, 0, none⟩), .pointer (some ⟨bt, 0, none⟩)] w fun e w' => e = .returned (.bool (tornB l tl ((p : Int), (q : Int)))) ∧ Below w.heap.size w w' := by
  obtain ⟨_, _, hf, hc⟩ := hu.form
  cases hf
  obtain ⟨_, _, hf, hc2⟩ := hcc.form
  cases hf
  obtain ⟨a, ha⟩ : ∃ y, tl[p]? = some y := ⟨_, List.getElem?_eq_getElem (by omega)⟩
  obtain ⟨b, hb⟩ : ∃ y, tl[q]? = some y := ⟨_, List.getElem?_eq_getElem (by omega)⟩
  have ha0 := hn a (List.mem_of_getElem? ha)
  have hb0 := hn b (List.mem_of_getElem? hb)
  obtain ⟨a, rfl⟩ : ∃ m : Nat, a = (m : Int) := ⟨a.toNat, by omega⟩
  obtain ⟨b, rfl⟩ : ∃ m : Nat, b = (m : Int) := ⟨b.toNat, by omega⟩
  obtain ⟨g, o, rfl, c0⟩ := hc p _ ha
  obtain ⟨g', o', e', c1⟩ := hc q _ hb
  obtain ⟨rfl, rfl⟩ : g = g' ∧ o = o' := by simpa using e'
  obtain ⟨g2, o2, rfl, c2⟩ := hc2 a _ (clos_at (by omega))
  have hlen := clos_len l n
  rw [hlen] at hcl
  rw [hl] at ht
  have hpn : (p : Int) < (n : Int) := by omega
  have hqn : (q : Int) < (n : Int) := by omega
  have han : (a : Int) < (n : Int) := by omega
  have HV : Hid (tornB l tl ((p : Int), (q : Int)) = !(cloB l a).testBit b) := by show _ = _; unfold tornB; rw [at_eq ha, at_eq hb]; rfl
  have hlt := cloB_lt' hg a (by omega)
  generalize cloB l a = z at *
  have b0 := (Below.refl w.heap.size w).alloc (Nat.le_refl _) (.cells #[.int .i64 (p : Int), .int .i64 (q : Int)] 80)
  have HH := Lib.hid (fun (W : World) => has_any z b W (by omega) (by omega))
  have d0 := cell_keep c0 b0
  have d1 := cell_keep c1 b0
  have d2 := cell_keep c2 b0
  have d3 := cell_keep ht b0
  have d4 := cell_keep hcl b0
  have HB := Lib.hid b0
  obtain ⟨m0, m1, -, -⟩ := (Blk.new w 80 #[.int .i64 (p : Int), .int .i64 (q : Int)]).two
  clear ha hb hc hc2 hu hcc hn hg e' c0 c1 c2 ht hcl hlen b0
  go_enter Try.func100, Try.ntmps100
  go_wp2_with fail
  generalize w.alloc (.cells #[.int .i64 (p : Int), .int .i64 (q : Int)] 80) = W1 at *
  go_quiet ((go_at_call 89; exact quiet_left (HH.out _)))
  go_wp2_with fail
  go_ret
  exact ⟨ret_bool HV.out.symm, below_drewN HB.out _⟩
end Go.Proofs.Ytbdappkhkngdlaa.retr
