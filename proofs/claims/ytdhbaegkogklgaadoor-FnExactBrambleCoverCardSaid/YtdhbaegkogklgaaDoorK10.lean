/- A slice of slices of integers that reads as rows. -/
import Derived.Test.YtdhbaegkogklgaaDoorK01
import Derived.Handy
import Derived.Test.YtdhbaegkogklgaaDoorK07
import Derived.Deep.DeepCutAuto
import Derived.Deep.RegionHeld3
import Derived.Test.YtdhbaegkogklgaaDoorK09
import Derived.Test.YtdhbaegkogklgaaDoorK08
import Derived.Test.YtdhbaegkogklgaaDoorK04
import Derived.Test.YtdhbaegkogklgaaDoorK02
import Derived.Deep.QuietTactic
import Derived.Test.YtdhbaegkogklgaaDoorK06
import Derived.Maps.OwnSet
namespace Go.Proofs.YtdhbaegkogklgaaDoor.gridr
open Go.RowKit P2 words
set_option linter.unusedVariables false

/-- a slice of slices that reads as rows -/
def ReadsG (w : World) (v : Value) (us : List Value) (rows : List (List Int)) : Prop :=
  Reads w 1 v rows.length us ∧ us.length = rows.length ∧ ∀ (i : Nat) u r, us[i]? = some u → rows[i]? = some r → Ints w u r
theorem ReadsG.below {w w' : World} {v : Value} {us : List Value} {rows : List (List Int)} (h : ReadsG w v us rows) (hb : Below w.heap.size w w') : ReadsG w' v us rows :=
  ⟨h.1.below hb, h.2.1, fun i u r hu hr => (h.2.2 i u r hu hr).below hb⟩
theorem ReadsG.row {w : World} {A : Option Addr} {n c : Nat} {us : List Value} {rows : List (List Int)} (h : ReadsG w (.slice A n c) us rows) {i : Nat} {r : List Int} (hr : rows[i]? = some r) :
    ∃ u g o, us[i]? = some u ∧ A = some ⟨g, o, none⟩ ∧ w.cell? ⟨g, o + i, none⟩ = some u ∧ Ints w u r := by
  have hi := (List.getElem?_eq_some_iff.1 hr).1
  obtain ⟨u, hu⟩ : ∃ u, us[i]? = some u := ⟨_, List.getElem?_eq_getElem (by rw [h.2.1]; exact hi)⟩
  obtain ⟨A', c', e, hx⟩ := h.1
  cases e
  obtain ⟨g, o, rfl, _, hj⟩ := hx (by omega)
  exact ⟨u, g, o, hu, rfl, hj i u hu, h.2.2 i u r hu hr⟩

end Go.Proofs.YtdhbaegkogklgaaDoor.gridr

/- What the laws do with slices of slices of integers: compare, mark, look at the marks. -/
namespace Go.Proofs.YtdhbaegkogklgaaDoor.gridl
open Go.RowKit P2 words edges ints owns grid gridr
set_option linter.unusedVariables false

theorem readsG_of_own {w : World} {B : Nat} {v : Value} {us : List Value} {rows : List (List Int)} (h : OwnG w B v us rows) : ReadsG w v us rows :=
  ⟨Reads.of_own h.1, h.len, fun i u r hu hr => Reads.of_own (h.2.1 i u r hu hr)⟩
def OwnGR (B S : Nat) (w : World) (v : Value) (us : List Value) (rows : List (List Int)) : Prop :=
  OwnG w B v us rows ∧ (∀ k, v.ownBlock = some k → k < S) ∧ ∀ (i : Nat) u k, us[i]? = some u → u.ownBlock = some k → k < S
section
variable {w w' : World} {B S B' S' : Nat} {v : Value} {us : List Value} {rows : List (List Int)}
theorem own_turned {t : TypeId} {size n : Nat} {xs : List Value} (h : w.ownsRow B t size v n xs) (hS : ∀ k, v.ownBlock = some k → k < S) (ht : Turned B' S' w w') (hd : S ≤ B' ∨ S' ≤ B) : w'.ownsRow B t size v n xs :=
  (OwnR.turned (S := S) ⟨h, hS⟩ ht hd).1
theorem OwnGR.new (h : OwnG w B v us rows) : OwnGR B w.heap.size w v us rows :=
  ⟨h, fun k hk => (h.1.lt k hk).2, fun i u k hu hk => by
    obtain ⟨r, hr⟩ : ∃ r, rows[i]? = some r := ⟨_, List.getElem?_eq_getElem (by have := (List.getElem?_eq_some_iff.1 hu).1; have := h.len; omega)⟩
    exact ((h.2.1 i u r hu hr).lt k hk).2⟩
theorem OwnGR.below (h : OwnGR B S w v us rows) (hb : Below w.heap.size w w') : OwnGR B S w' v us rows := ⟨h.1.below hb, h.2⟩
theorem OwnGR.turned (h : OwnGR B S w v us rows) (ht : Turned B' S' w w') (hd : S ≤ B' ∨ S' ≤ B) : OwnGR B S w' v us rows :=
  ⟨⟨own_turned h.1.1 h.2.1 ht hd, fun i u r hu hr => own_turned (h.1.2.1 i u r hu hr) (fun k hk => h.2.2 i u k hu hk) ht hd, h.1.2.2⟩, h.2⟩
theorem OwnGR.reads (h : OwnGR B S w v us rows) : ReadsG w v us rows := readsG_of_own h.1
/-- one row is written anew -/
theorem OwnG.mark {k : Nat} {u : Value} {r r' : List Int} (h : OwnG w B v us rows) (hu : us[k]? = some u) (hr : rows[k]? = some r) (hn : w'.ownsRow B 3 1 u r'.length (cellsI r')) (hl : r'.length = r.length)
    (hg : w.grownBy w' u.ownBlock) : OwnG w' B v us (rows.set k r') := by
  have hu0 := h.2.1 k u r hu hr
  have hk := (List.getElem?_eq_some_iff.1 hr).1
  refine ⟨?_, ?_, h.2.2⟩
  · rw [List.length_set]
    refine h.1.kept hg ?_
    cases hv : v.ownBlock with
    | none => exact .inl rfl
    | some b => exact .inr fun e => own_apart hu0 h.1 tneI b e.symm hv
  · intro i x q hx hq
    by_cases e : i = k
    · subst e
      rw [hu] at hx; cases hx
      rw [List.getElem?_set_self hk] at hq; cases hq
      exact hn
    · rw [List.getElem?_set_ne (fun hh => e hh.symm)] at hq
      refine (h.2.1 i x q hx hq).kept hg ?_
      cases hv : x.ownBlock with
      | none => exact .inl rfl
      | some b =>
        refine .inr fun e2 => ?_
        rcases Nat.lt_or_gt_of_ne e with hlt | hlt
        · exact h.2.2 i k x u b hlt hx hu hv e2.symm
        · exact h.2.2 k i u x b hlt hu hx e2.symm hv
theorem Turned.trans {a b c : World} (h : Turned B S a b) (k : Turned B S b c) : Turned B S a c :=
  ⟨k.os.trans h.os, k.tape.trans h.tape, k.output.trans h.output, Nat.le_trans h.size k.size, fun i hi hd => (k.block i (Nat.lt_of_lt_of_le hi h.size) hd).trans (h.block i hi hd)⟩
theorem Turned.refl (B S : Nat) (w : World) : Turned B S w w := ⟨rfl, rfl, rfl, Nat.le_refl _, fun _ _ _ => rfl⟩
end

def tot (rows : List (List Int)) : Nat := (rows.map List.length).sum
/-- numbers one after the other, in rows as long as those -/
def marksG (m : Nat) : List (List Int) → List (List Int)
  | [] => []
  | r :: rs => marksI m r.length :: marksG (m + r.length) rs
theorem marksG_len : ∀ (rows : List (List Int)) (m : Nat), (marksG m rows).length = rows.length
  | [], _ => rfl
  | r :: rs, m => by simp [marksG, marksG_len rs]
theorem marksG_at : ∀ {rows : List (List Int)} {m k : Nat} {r : List Int}, rows[k]? = some r → (marksG m rows)[k]? = some (marksI (m + tot (rows.take k)) r.length)
  | [], _, _, _, h => by simp at h
  | a :: rs, m, 0, r, h => by
    simp at h; subst h; simp [marksG, tot]
  | a :: rs, m, k + 1, r, h => by
    simp at h
    have := marksG_at (m := m + a.length) h
    simp only [marksG, List.getElem?_cons_succ, this, tot, List.take_succ_cons, List.map_cons, List.sum_cons, Nat.add_assoc]
theorem marksG_tot : ∀ (rows : List (List Int)) (m k : Nat), tot ((marksG m rows).take k) = tot (rows.take k)
  | [], _, _ => by simp [marksG]
  | r :: rs, m, 0 => rfl
  | r :: rs, m, k + 1 => by
    have := marksG_tot rs (m + r.length) k
    simp only [marksG, tot, List.take_succ_cons, List.map_cons, List.sum_cons, marksI_len] at this ⊢
    omega
theorem tot_succ {rows : List (List Int)} {k : Nat} {r : List Int} (h : rows[k]? = some r) : tot (rows.take (k + 1)) = tot (rows.take k) + r.length := by
  unfold tot; rw [List.take_add_one, h]; simp
theorem tot_le (rows : List (List Int)) (k : Nat) : tot (rows.take k) ≤ tot rows := by
  have h : tot rows = tot (rows.take k) + tot (rows.drop k) := by
    unfold tot; rw [← List.sum_append, ← List.map_append, List.take_append_drop]
  omega
/-- the first k rows marked -/
def markTo (m : Nat) (rows : List (List Int)) (k : Nat) : List (List Int) := (marksG m rows).take k ++ rows.drop k
theorem markTo_len {m k : Nat} {rows : List (List Int)} (h : k ≤ rows.length) : (markTo m rows k).length = rows.length := by
  unfold markTo; rw [List.length_append, List.length_take, marksG_len, List.length_drop]; omega
theorem markTo_zero (m : Nat) (rows : List (List Int)) : markTo m rows 0 = rows := by simp [markTo]
theorem markTo_all (m : Nat) (rows : List (List Int)) : markTo m rows rows.length = marksG m rows := by
  unfold markTo; rw [List.drop_length, List.append_nil, ← marksG_len rows m, List.take_length]
theorem markTo_at {m k : Nat} {rows : List (List Int)} {r : List Int} (h : rows[k]? = some r) : (markTo m rows k)[k]? = some r := by
  have hk := (List.getElem?_eq_some_iff.1 h).1
  unfold markTo
  rw [List.getElem?_append_right (by rw [List.length_take, marksG_len]; omega), List.length_take, marksG_len, Nat.min_eq_left (by omega), Nat.sub_self, List.getElem?_drop]
  exact h
theorem markTo_set {m k : Nat} {rows : List (List Int)} {r : List Int} (h : rows[k]? = some r) : (markTo m rows k).set k (marksI (m + tot (rows.take k)) r.length) = markTo m rows (k + 1) := by
  have hk := (List.getElem?_eq_some_iff.1 h).1
  have hl : ((marksG m rows).take k).length = k := by rw [List.length_take, marksG_len]; omega
  unfold markTo
  rw [List.set_append_right _ _ (by omega), hl, Nat.sub_self, List.drop_eq_getElem_cons hk, List.set_cons_zero, List.take_add_one, marksG_at h]
  simp

set_option maxHeartbeats 1000000 in
theorem markIntSS_own (v : Value) (us : List Value) (rows : List (List Int)) (B S m : Nat) (w : World) (h : OwnGR B S w v us rows) (hl : m + tot rows ≤ 10000000) (hn : rows.length ≤ 1048576) :
    Calls Tryd.prog 24 #[v, .int .i64 (m : Int)] w fun e w' => e = .returned (.int .i64 ((m + tot rows : Nat) : Int)) ∧ OwnGR B S w' v us (marksG m rows) ∧ Turned B S w w' := by
  obtain ⟨A, c, rfl⟩ := own_form h.1.1
  have H0 := Lib.hid h
  clear h
  go_enter Tryd.func24, Tryd.ntmps24
  go_wp2_with fail
  go_loopw [1, 5] (fun q i wr => ∃ k : Nat, k ≤ rows.length ∧ i = .int .i64 (k : Int) ∧ q = .int .i64 ((m + tot (rows.take k) : Nat) : Int) ∧ OwnG wr B (.slice A rows.length c) us (markTo m rows k) ∧ Turned B S w wr)
    (fun _ i _ => rows.length - (intOf i).toNat)
  case atStart => exact ⟨0, Nat.zero_le _, rfl, rfl, by rw [markTo_zero]; exact H0.out.1, Turned.refl _ _ _⟩
  case round =>
    obtain ⟨k, hk, rfl, rfl, hown, hT⟩ := hrel
    have htl := tot_le rows k
    by_cases hlt : k < rows.length
    · obtain ⟨r, hr⟩ : ∃ r, rows[k]? = some r := ⟨_, List.getElem?_eq_getElem hlt⟩
      have hlt' : (k : Int) < (rows.length : Int) := by omega
      obtain ⟨u, g, o, hu, rfl, c0, -⟩ := (readsG_of_own hown).row (markTo_at (m := m) hr)
      have HS := Lib.hid (markTo_set (m := m) hr)
      have htu := tot_le rows (k + 1)
      have HTS := Lib.hid (tot_succ hr)
      rw [tot_succ hr] at htu
      have hrow := hown.2.1 k u r hu (markTo_at (m := m) hr)
      have HM := Lib.hid (markIntS_any u r B (m + tot (rows.take k)) wr hrow (by omega))
      have HO := Lib.hid hown
      have HT := Lib.hid hT
      have HU := Lib.hid hu
      have HR := Lib.hid (markTo_at (m := m) hr)
      have HB := Lib.hid (fun j hj => (⟨(hrow.lt j hj).1, H0.out.2.2 k u j hu hj⟩ : B ≤ j ∧ j < S))
      clear hown hT hu hr hrow
      go_wp2_with fail
      refine HM.out.mono ?_
      rintro e w2 ⟨rfl, h2, h3⟩
      go_wp2_with fail
      go_roundw
      case rel => exact ⟨k + 1, by omega, by go_num, by rw [HTS.out]; congr 1; omega, by rw [← HS.out]; exact OwnG.mark HO.out HU.out HR.out (by rw [marksI_len]; exact h2) (marksI_len _ _) h3, Turned.trans HT.out (turned_of h3 HB.out)⟩
      case measure => simp [intOf]; omega
    · obtain rfl : k = rows.length := by omega
      rw [markTo_all] at hown
      have HO := Lib.hid hown
      clear hown
      go_wp2_with fail
      go_ret
      exact ⟨ret_int (by rw [List.take_length]), ⟨HO.out, H0.out.2⟩, hT⟩

set_option maxHeartbeats 1000000 in
theorem heldIntSS_own (v : Value) (us : List Value) (rows : List (List Int)) (B S m : Nat) (w : World) (h : OwnGR B S w v us (marksG m rows)) (hl : m + tot rows ≤ 10000000) (hn : rows.length ≤ 1048576) :
    Calls Tryd.prog 25 #[v, .int .i64 (m : Int)] w fun e w' => e = .returned (.int .i64 ((m + tot rows : Nat) : Int)) ∧ Below w.heap.size w w' := by
  obtain ⟨A, c, rfl⟩ := own_form h.1.1
  have H0 := Lib.hid h.reads
  have hgl := marksG_len rows m
  rw [hgl] at *
  clear h hgl
  go_enter Tryd.func25, Tryd.ntmps25
  go_wp2_with fail
  go_loop [1, 5] (fun q i => ∃ k : Nat, k ≤ rows.length ∧ i = .int .i64 (k : Int) ∧ q = .int .i64 ((m + tot (rows.take k) : Nat) : Int)) (fun _ i => rows.length - (intOf i).toNat)
  case atStart => exact ⟨0, Nat.zero_le _, rfl, rfl⟩
  case round =>
    obtain ⟨k, hk, rfl, rfl⟩ := hrel
    have htl := tot_le rows k
    by_cases hlt : k < rows.length
    · obtain ⟨r, hr⟩ : ∃ r, rows[k]? = some r := ⟨_, List.getElem?_eq_getElem hlt⟩
      have hlt' : (k : Int) < (rows.length : Int) := by omega
      obtain ⟨u, g, o, hu, rfl, c0, hru⟩ := H0.out.row (marksG_at (m := m) hr)
      have htu := tot_le rows (k + 1)
      have HTS := Lib.hid (tot_succ hr)
      rw [tot_succ hr] at htu
      have HM := Lib.hid (heldIntS_any u r.length (m + tot (rows.take k)) w hru (by omega))
      have hnn : ¬ ((m + tot (rows.take k) + r.length : Nat) : Int) < 0 := by omega
      clear hu hru hr
      go_wp2_with fail
      refine HM.out.mono ?_
      rintro e w2 ⟨rfl, rfl⟩
      go_wp2_with fail
      go_round
      case rel => exact ⟨k + 1, by omega, by go_num, by rw [HTS.out]; congr 1; omega⟩
      case measure => simp [intOf]; omega
    · obtain rfl : k = rows.length := by omega
      go_wp2_with fail
      go_ret
      exact ⟨rfl, Below.refl _ _⟩

set_option maxHeartbeats 1000000 in
theorem eqIntSS_own (a b : Value) (us ub : List Value) (rows : List (List Int)) (w : World) (ha : ReadsG w a us rows) (hb : ReadsG w b ub rows) (hl : tot rows ≤ 1048576) (hn : rows.length ≤ 1048576) :
    Calls Tryd.prog 23 #[a, b] w fun e w' => e = .returned (.bool true) ∧ Below w.heap.size w w' := by
  have HA := Lib.hid ha
  have HB := Lib.hid hb
  obtain ⟨A, c, rfl, -⟩ := ha.1
  obtain ⟨A2, c2, rfl, -⟩ := hb.1
  have hself : ((rows.length : Int) != (rows.length : Int)) = false := by simp
  clear ha hb
  go_enter Tryd.func23, Tryd.ntmps23
  go_wp2_with fail
  go_loopg [5] rows.length (fun g i wr => ∃ k : Nat, k + g = rows.length ∧ i = .int .i64 (k : Int) ∧ Below w.heap.size w wr)
  case atStart => exact ⟨0, by omega, rfl, Below.refl _ _⟩
  case round =>
    obtain ⟨k, hkg, rfl, hB⟩ := hrel
    cases gk with
    | zero =>
      obtain rfl : k = rows.length := by omega
      go_wp2_with fail
      go_ret
      exact ⟨rfl, hB⟩
    | succ g2 =>
      have hlt : k < rows.length := by omega
      have hlt' : (k : Int) < (rows.length : Int) := by omega
      obtain ⟨r, hr⟩ : ∃ r, rows[k]? = some r := ⟨_, List.getElem?_eq_getElem hlt⟩
      obtain ⟨u, g, o, hu, rfl, c0, hru⟩ := (HA.out.below hB).row hr
      obtain ⟨u2, gg, oo, hu2, rfl, c1, hru2⟩ := (HB.out.below hB).row hr
      have hrl : r.length ≤ 1048576 := by have := tot_succ hr; have := tot_le rows (k + 1); omega
      have HE := Lib.hid (fun (W : World) (hW : Below wr.heap.size wr W) => eqIntS_own u u2 r W (hru.below hW) (hru2.below hW) hrl)
      have HC := Lib.hid (And.intro c0 c1)
      have HBB := Lib.hid hB
      clear hu hu2 hru hru2 hr hrl hB
      go_wp2_with fail
      go_region_held3 (fun w' => w'.cell? ⟨g, o + k, none⟩ = some u ∧ w'.cell? ⟨gg, oo + k, none⟩ = some u2) (go_keep)
        ((go_at_call 15; refine (HE.out _ (by go_grown)).mono ?_; rintro e w3 ⟨rfl, b3⟩; have d3 : Below wr.heap.size wr w3 := (Below.refl _ _).drew.trans b3; have k0 : w3.cell? ⟨g, o + k, none⟩ = some u := (d3.cell (World.block_lt_of_cell? wr _ HC.out.1)).trans HC.out.1; have k1 : w3.cell? ⟨gg, oo + k, none⟩ = some u2 := (d3.cell (World.block_lt_of_cell? wr _ HC.out.2)).trans HC.out.2))
      have HB3 := Lib.hid (btrans HBB.out d3)
      clear c0 c1 k0 k1 b3 d3
      go_wp2_with fail
      go_roundg g2
      case measure => omega
      case rel => exact ⟨k + 1, by omega, by go_num, HB3.out⟩
end Go.Proofs.YtdhbaegkogklgaaDoor.gridl

/- The contract of the program's leastCosts. -/
namespace Go.Proofs.YtdhbaegkogklgaaDoor.costs
open Go.RowKit P2 words edges ints good adjs fns sets rets covs reach bags bitsI fronts
set_option linter.unusedVariables false

def maxI : Int := 9223372036854775807
def rowF (N : Nat) (C : Nat → Int) : List Int := (List.range N).map C
theorem rowF_len (N : Nat) (C : Nat → Int) : (rowF N C).length = N := by simp [rowF]
theorem rowF_at {N i : Nat} {C : Nat → Int} (h : i < N) : (rowF N C)[i]? = some (C i) := by simp [rowF, h]
def upd (C : Nat → Int) (i : Nat) (v : Int) : Nat → Int := fun j => if j = i then v else C j
theorem upd_at (C : Nat → Int) (i : Nat) (v : Int) : upd C i v i = v := by simp [upd]
theorem upd_ne (C : Nat → Int) {i j : Nat} (v : Int) (h : j ≠ i) : upd C i v j = C j := by simp [upd, h]
theorem upd_upd (C : Nat → Int) (i : Nat) (v u : Int) : upd (upd C i v) i u = upd C i u := by funext j; unfold upd; split <;> rfl
theorem upd_self (C : Nat → Int) (i : Nat) : upd C i (C i) = C := by funext j; unfold upd; split <;> simp_all
theorem rowF_set (N : Nat) (C : Nat → Int) (i : Nat) (v : Int) : (rowF N C).set i v = rowF N (upd C i v) := by
  unfold rowF
  apply List.ext_getElem?
  intro j
  rw [List.getElem?_set]
  by_cases hj : i = j
  · subst hj
    by_cases h : i < N <;> simp [h, upd_at]
  · rw [if_neg hj]
    by_cases h : j < N
    · simp [h, upd_ne C v (fun e => hj e.symm)]
    · simp [h]
theorem rowF_const (N : Nat) (v : Int) : List.replicate N v = rowF N (fun _ => v) := by unfold rowF; rw [List.map_const']; simp
theorem rowF_cells (N : Nat) (C : Nat → Int) (i : Nat) (v : Int) : (cellsI (rowF N C)).set i (.int .i64 v) = cellsI (rowF N (upd C i v)) := by rw [← rowF_set]; simp [cellsI, List.map_set]

theorem min_if (a b v : Int) : (if (if a < b then b else a) < v then (if a < b then b else a) else v) = min v (max a b) := by
  split <;> split <;> omega
/-- down to a set: those above it have their least costs, the others the greatest number -/
def LcUp (n : Nat) (cost : Nat → Nat → Int) (nil : Int) (g : Nat) (C : Nat → Int) : Prop :=
  C (2 ^ n - 1) = nil ∧ (∀ c, g ≤ c → c < 2 ^ n - 1 → LcAt n cost C c) ∧ (∀ c, c < g → C c = maxI) ∧ g ≤ 2 ^ n - 1 ∧ ∀ c, g ≤ c → c < 2 ^ n → C c ≤ 100
/-- the least so far of a set's -/
def PtAt (n : Nat) (cost : Nat → Nat → Int) (C : Nat → Int) (c x : Nat) (v : Int) : Prop :=
  (v = maxI ∨ ∃ y, y < x ∧ y < n ∧ c.testBit y = false ∧ v = max (cost c y) (C (c ||| 2 ^ y))) ∧ ∀ y, y < x → y < n → c.testBit y = false → v ≤ max (cost c y) (C (c ||| 2 ^ y))
theorem PtAt.start (n : Nat) (cost : Nat → Nat → Int) (C : Nat → Int) (c : Nat) : PtAt n cost C c 0 maxI := ⟨.inl rfl, fun y h => by omega⟩
theorem PtAt.skip {n : Nat} {cost : Nat → Nat → Int} {C : Nat → Int} {c x : Nat} {v : Int} (h : PtAt n cost C c x v) (hb : c.testBit x = true) : PtAt n cost C c (x + 1) v := by
  refine ⟨?_, fun y hy hn hby => ?_⟩
  · rcases h.1 with h1 | ⟨y, h1, h2⟩
    · exact .inl h1
    · exact .inr ⟨y, by omega, h2⟩
  · by_cases e : y = x
    · subst e; rw [hb] at hby; cases hby
    · exact h.2 y (by omega) hn hby
theorem PtAt.take {n : Nat} {cost : Nat → Nat → Int} {C : Nat → Int} {c x : Nat} {v u : Int} (h : PtAt n cost C c x v) (hx : x < n) (hb : c.testBit x = false) (hu : u = max (cost c x) (C (c ||| 2 ^ x))) : PtAt n cost C c (x + 1) (min v u) := by
  refine ⟨?_, fun y hy hn hby => ?_⟩
  · by_cases hvu : v ≤ u
    · rw [Int.min_eq_left hvu]
      rcases h.1 with h1 | ⟨y, h1, h2⟩
      · exact .inl h1
      · exact .inr ⟨y, by omega, h2⟩
    · rw [Int.min_eq_right (by omega)]
      exact .inr ⟨x, by omega, hx, hb, hu⟩
  · by_cases e : y = x
    · subst e; omega
    · have := h.2 y (by omega) hn hby; omega
theorem PtAt.all {n : Nat} {cost : Nat → Nat → Int} {nil : Int} {C : Nat → Int} {c : Nat} {v : Int} (hn : n ≤ 8) (hL : LcUp n cost nil (c + 1) C) (h : PtAt n cost C c n v) (hcost : ∀ g x, cost g x ≤ 100) (hc : c < 2 ^ n - 1) : LcUp n cost nil c (upd C c v) := by
  have hp := pow8 hn
  obtain ⟨h1, h2, h3, h4, h5⟩ := hL
  have hor : ∀ y, y < n → c.testBit y = false → c < c ||| 2 ^ y ∧ c ||| 2 ^ y < 2 ^ n := fun y hy hb => ⟨or_gt (by omega) (by omega) hb, or_lt (by omega) hy⟩
  obtain ⟨z, hz, hzb⟩ := out_bit hn hc
  have hz1 := h.2 z hz hz hzb
  have hz2 := hor z hz hzb
  have hz3 := h5 _ hz2.1 hz2.2
  have hz4 := hcost c z
  have hv : v ≤ 100 := by omega
  refine ⟨by rw [upd_ne C v (by omega)]; exact h1, fun d hd hd2 => ?_, fun d hd => by rw [upd_ne C v (by omega)]; exact h3 d (by omega), by omega, fun d hd hd2 => ?_⟩
  · by_cases e : d = c
    · subst e
      refine ⟨?_, fun y hy hb => ?_⟩
      · rcases h.1 with h6 | ⟨y, _, h6, h7, h8⟩
        · exfalso; unfold maxI at h6; omega
        · refine ⟨y, h6, h7, ?_⟩
          rw [upd_at, upd_ne C v (by have := hor y h6 h7; omega)]; exact h8
      · rw [upd_at, upd_ne C v (by have := hor y hy hb; omega)]; exact h.2 y hy hy hb
    · have hdo : ∀ y, y < n → d.testBit y = false → d ||| 2 ^ y ≠ c := fun y hy hb => by have := or_gt (x := y) (by omega : d < 256) (by omega) hb; omega
      obtain ⟨⟨x, hx, hb, hC⟩, hle⟩ := h2 d (by omega) hd2
      refine ⟨⟨x, hx, hb, ?_⟩, fun y hy hby => ?_⟩
      · rw [upd_ne C v e, upd_ne C v (hdo x hx hb)]; exact hC
      · rw [upd_ne C v e, upd_ne C v (hdo y hy hby)]; exact hle y hy hby
  · by_cases e : d = c
    · subst e; rw [upd_at]; exact hv
    · rw [upd_ne C v e]; exact h5 d (by omega) hd2
end Go.Proofs.YtdhbaegkogklgaaDoor.costs

/- Fronts: the contracts of the program's frontIn and FrontOf. -/
namespace Go.Proofs.YtdhbaegkogklgaaDoor.fronts
open Go.RowKit P2 words edges ints good adjs fns sets rets covs reach bags bitsI
set_option linter.unusedVariables false

theorem shl_all {n : Nat} (hn : n ≤ 8) : IntKind.u64.wrap (IntKind.u64.wrap ((2 : Int) ^ n) - 1) = ((numOf (fun _ => true) n : Nat) : Int) := by
  have hpn : 2 ^ n ≤ 256 := by have := Nat.pow_le_pow_right (show 0 < 2 by decide) hn; simpa using this
  have hp1 : 1 ≤ 2 ^ n := Nat.one_le_two_pow
  have e : numOf (fun _ => true) n = 2 ^ n - 1 := by
    apply Nat.eq_of_testBit_eq
    intro i
    rw [numOf_bit, Nat.testBit_two_pow_sub_one]; simp
  rw [e, wrap_pow hn, IntKind.wrap_u64]
  generalize 2 ^ n = z at *
  omega
theorem all_but {n : Nat} (S : Nat → Bool) (hn : n ≤ 8) : bits .andNot .u64 ((numOf (fun _ => true) n : Nat) : Int) ((numOf S n : Nat) : Int) = ((numOf (fun y => !S y) n : Nat) : Int) := by
  have h1 := numOf_lt (fun _ => true) hn
  refine andNot_num _ S n (by omega) hn _ fun z _ => ?_
  rw [numOf_bit]
  by_cases hz : z < n <;> simp [hz]
noncomputable def froL (n : Nat) (l : List Ed) (xs : List Int) : List Int := nw (frontB l n (goneB xs)) n
theorem fro_len (s : Int) (l : List Ed) (xs : List Int) (p : Prop) (h : p → s.toNat ≤ 8) : (inG p (froL s.toNat l xs)).length ≤ 1048576 := inG_len fun hp => by
  have h1 := nw_len (frontB l s.toNat (goneB xs)) s.toNat
  have h2 := h hp
  unfold froL; omega
end Go.Proofs.YtdhbaegkogklgaaDoor.fronts

/- The pathwidth: plain mathematics. -/
namespace Go.Proofs.YtdhbaegkogklgaaDoor.costs
open Go.RowKit P2 words edges ints good adjs fns sets rets covs reach bags bitsI fronts
set_option linter.unusedVariables false

theorem frontC_le (l : List Ed) (n : Nat) (hn : n ≤ 8) (g x : Nat) : frontC l n g x ≤ 100 := by
  unfold frontC frontN
  have := nw_len (frontB l n (bitB (g ||| 2 ^ x))) n
  omega
theorem frontC_pos (l : List Ed) (n g x : Nat) : 0 ≤ frontC l n g x := by unfold frontC frontN; omega
theorem num_code {n g : Nat} (hg : g < 2 ^ n) : numOf (bitB g) n = g := by
  apply Nat.eq_of_testBit_eq
  intro i
  rw [numOf_bit]
  unfold bitB
  by_cases hi : i < n
  · simp [hi]
  · simp only [hi, decide_false, Bool.false_and]
    exact (Nat.testBit_lt_two_pow (Nat.lt_of_lt_of_le hg (Nat.pow_le_pow_right (by decide) (by omega)))).symm
theorem put_code (g x z : Nat) : pput (bitB g) x z = bitB (g ||| 2 ^ x) z := by
  unfold pput bitB
  rw [Nat.testBit_or, Nat.testBit_two_pow]
  by_cases h : z = x
  · subst h; simp
  · have h2 : ¬ x = z := fun e => h e.symm
    simp [h, h2]
theorem front_put (l : List Ed) (n g x : Nat) : ((nw (frontB l n (pput (bitB g) x)) n).length : Int) = frontC l n g x := by
  unfold frontC frontN
  rw [reach.nw_congr fun z hz => frontB_congr (fun y hy => put_code g x y) hz]
theorem LcUp.pos {n : Nat} {cost : Nat → Nat → Int} {C : Nat → Int} (hn : n ≤ 8) (h : LcUp n cost 0 0 C) (hc : ∀ g x, 0 ≤ cost g x) : 0 ≤ C 0 := by
  by_cases e : 2 ^ n - 1 = 0
  · have := h.1; rw [e] at this; omega
  · obtain ⟨⟨x, _, _, hC⟩, _⟩ := h.2.1 0 (by omega) (by omega)
    have := hc 0 x
    omega
noncomputable def pwV (s : Int) (l : List Ed) : Int := leastV s.toNat (frontC l s.toNat) 0
theorem pw_lc {n : Nat} {l : List Ed} {C : Nat → Int} (hn : n ≤ 8) (h : LcUp n (frontC l n) 0 0 C) : pwV (n : Int) l = C 0 := by
  have e : pwV (n : Int) l = leastV n (frontC l n) 0 := rfl
  rw [e]
  exact Least.is (lc_least hn h.1 (fun c hc => h.2.1 c (by omega) hc) (h.pos hn (frontC_pos l n)))

/-- the model's table: the least separations of the sets below a number -/
def WUp (n : Nat) (cost : Nat → Nat → Int) (k : Nat) (W : Nat → Int) : Prop :=
  W 0 = 0 ∧ (∀ d, d < k → d ≠ 0 → WAt n cost W d) ∧ ∀ d, d < k → 0 ≤ W d ∧ W d ≤ 100
/-- the least of those below a set, so far -/
def BtAt (n : Nat) (W : Nat → Int) (d x : Nat) (b : Int) : Prop :=
  (b = -1 ∧ (∀ y, y < x → d.testBit y = false)) ∨ ((∃ y, y < x ∧ y < n ∧ d.testBit y = true ∧ b = W (d - 2 ^ y)) ∧ ∀ y, y < x → d.testBit y = true → b ≤ W (d - 2 ^ y))
theorem BtAt.start (n : Nat) (W : Nat → Int) (d : Nat) : BtAt n W d 0 (-1) := .inl ⟨rfl, fun y h => by omega⟩
theorem BtAt.skip {n : Nat} {W : Nat → Int} {d x : Nat} {b : Int} (h : BtAt n W d x b) (hb : d.testBit x = false) : BtAt n W d (x + 1) b := by
  rcases h with ⟨h1, h2⟩ | ⟨⟨y, h1, h2⟩, h3⟩
  · refine .inl ⟨h1, fun y hy => ?_⟩
    by_cases e : y = x
    · subst e; exact hb
    · exact h2 y (by omega)
  · refine .inr ⟨⟨y, by omega, h2⟩, fun z hz hzb => ?_⟩
    by_cases e : z = x
    · subst e; rw [hb] at hzb; cases hzb
    · exact h3 z (by omega) hzb
/-- it is less, or the first one -/
theorem BtAt.take {n : Nat} {W : Nat → Int} {d x : Nat} {b : Int} (h : BtAt n W d x b) (hx : x < n) (hb : d.testBit x = true) (hl : b < 0 ∨ W (d - 2 ^ x) < b) (hp : ∀ y, d.testBit y = true → y < n → 0 ≤ W (d - 2 ^ y)) : BtAt n W d (x + 1) (W (d - 2 ^ x)) := by
  refine .inr ⟨⟨x, by omega, hx, hb, rfl⟩, fun z hz hzb => ?_⟩
  by_cases e : z = x
  · subst e; exact Int.le_refl _
  · rcases h with ⟨_, h2⟩ | ⟨⟨y, h1, h2, h4, h5⟩, h3⟩
    · rw [h2 z (by omega)] at hzb; cases hzb
    · have := h3 z (by omega) hzb
      have := hp y h4 h2
      omega
/-- it is not -/
theorem BtAt.keep {n : Nat} {W : Nat → Int} {d x : Nat} {b : Int} (h : BtAt n W d x b) (hl0 : ¬ b < 0) (hl : ¬ W (d - 2 ^ x) < b) : BtAt n W d (x + 1) b := by
  rcases h with ⟨h1, _⟩ | ⟨⟨y, h1, h2⟩, h3⟩
  · omega
  · refine .inr ⟨⟨y, by omega, h2⟩, fun z hz hzb => ?_⟩
    by_cases e : z = x
    · subst e; omega
    · exact h3 z (by omega) hzb
theorem WUp.start (n : Nat) (cost : Nat → Nat → Int) : WUp n cost 1 (fun _ => 0) := ⟨rfl, fun d h1 h2 => by omega, fun d _ => ⟨by show (0 : Int) ≤ 0; omega, by show (0 : Int) ≤ 100; omega⟩⟩
theorem WUp.succ {n : Nat} {l : List Ed} {k : Nat} {W : Nat → Int} {b : Int} (hn : n ≤ 8) (h : WUp n (frontC l n) k W) (hk0 : 1 ≤ k) (hk : k < 2 ^ n) (hb : BtAt n W k n b) : WUp n (frontC l n) (k + 1) (upd W k (max b (frontN l n k))) := by
  have hp := pow8 hn
  obtain ⟨h1, h2, h3⟩ := h
  have hF : frontN l n k ≤ 8 := by unfold frontN; have := nw_len (frontB l n (bitB k)) n; omega
  have hF0 : 0 ≤ frontN l n k := by unfold frontN; omega
  have hfc : ∀ d y, d < 256 → y < 8 → d.testBit y = true → frontC l n (d - 2 ^ y) y = frontN l n d := fun d y hd hy hbt => by unfold frontC; rw [sub_or hd hy hbt]
  have hlt : ∀ d y, d ≠ 0 → d - 2 ^ y < d := fun d y hd => Nat.sub_lt (Nat.pos_of_ne_zero hd) (Nat.two_pow_pos y)
  have hdn : ∀ d y, d ≠ 0 → d ≤ k → d - 2 ^ y ≠ k := fun d y hd hdk => by have := hlt d y hd; omega
  obtain ⟨⟨y, _, hy, hyb, hbv⟩, hle⟩ : (∃ y, y < n ∧ y < n ∧ k.testBit y = true ∧ b = W (k - 2 ^ y)) ∧ ∀ y, y < n → k.testBit y = true → b ≤ W (k - 2 ^ y) := by
    rcases hb with ⟨_, h4⟩ | h4
    · obtain ⟨x, hx, hxb⟩ := in_bit hn hk (by omega)
      rw [h4 x hx] at hxb; cases hxb
    · exact h4
  have hb1 := h3 (k - 2 ^ y) (by have := hlt k y (by omega); omega)
  refine ⟨by rw [upd_ne W _ (by omega)]; exact h1, fun d hd hd0 => ?_, fun d hd => ?_⟩
  · by_cases e : d = k
    · subst e
      refine ⟨⟨y, hy, hyb, ?_⟩, fun z hz hzb => ?_⟩
      · rw [upd_at, upd_ne W _ (hdn d y hd0 (Nat.le_refl _)), hfc d y (by omega) (by omega) hyb, hbv]; omega
      · rw [upd_at, upd_ne W _ (hdn d z hd0 (Nat.le_refl _)), hfc d z (by omega) (by omega) hzb]
        have := hle z hz hzb
        omega
    · obtain ⟨⟨z, hz, hzb, hW⟩, hl2⟩ := h2 d (by omega) hd0
      refine ⟨⟨z, hz, hzb, ?_⟩, fun q hq hqb => ?_⟩
      · rw [upd_ne W _ e, upd_ne W _ (hdn d z hd0 (by omega))]; exact hW
      · rw [upd_ne W _ e, upd_ne W _ (hdn d q hd0 (by omega))]; exact hl2 q hq hqb
  · by_cases e : d = k
    · subst e; rw [upd_at]; omega
    · rw [upd_ne W _ e]; exact h3 d (by omega)
theorem pw_w {n : Nat} {l : List Ed} {W : Nat → Int} (hn : n ≤ 8) (h : WUp n (frontC l n) (2 ^ n) W) : pwV (n : Int) l = W (2 ^ n - 1) := by
  have e : pwV (n : Int) l = leastV n (frontC l n) 0 := rfl
  rw [e]
  exact Least.is (w_least hn h.1 (fun d hd hd0 => h.2.1 d hd hd0) (h.2.2 _ (by have := Nat.two_pow_pos n; omega)).1)
theorem rowF_app (k : Nat) (W : Nat → Int) (v : Int) : rowF (k + 1) (upd W k v) = rowF k W ++ [v] := by
  unfold rowF
  rw [List.range_succ, List.map_append, List.map_singleton, upd_at]
  congr 1
  exact List.map_congr_left fun d hd => upd_ne W v (by have := List.mem_range.1 hd; omega)
theorem gone_code {n d z : Nat} (hz : z < n) : goneB (nw (bitB d) n) z = bitB d z := by
  unfold goneB
  rw [Bool.eq_iff_iff, decide_eq_true_iff, mem_nw]
  constructor
  · rintro ⟨j, _, hj, e⟩
    have e2 : z = j := by omega
    rw [e2]; exact hj
  · intro h; exact ⟨z, hz, h, rfl⟩
theorem fro_code (l : List Ed) (n d : Nat) : (((froL n l (nw (bitB d) n)).length : Nat) : Int) = frontN l n d := by
  unfold froL frontN
  rw [reach.nw_congr fun z hz => frontB_congr (fun y hy => gone_code hy) hz]
end Go.Proofs.YtdhbaegkogklgaaDoor.costs

/- Lists that have each node once: the contracts of the program's hasOrder and of the model's l2Each. -/
namespace Go.Proofs.YtdhbaegkogklgaaDoor.each
open Go.RowKit Go.Maps P2 words edges ints good near adjs fns sets rets covs balls
set_option linter.unusedVariables false

theorem cell_keep {w w' : World} {b o : Nat} {v : Value} (h : w.cell? ⟨b, o, none⟩ = some v) (hb : Below w.heap.size w w') : w'.cell? ⟨b, o, none⟩ = some v :=
  (hb.cell (p := ⟨b, o, none⟩) (World.block_lt_of_cell? w (a := ⟨b, o, none⟩) h)).trans h
/-- a list has each node once -/
def EachS (n : Nat) (tl : List Int) : Prop := tl.length = n ∧ ∀ k : Nat, k < n → (k : Int) ∈ tl
theorem allN_nodup (n : Nat) : (allN n).Nodup := by
  unfold allN
  rw [List.Nodup, List.pairwise_map]
  exact List.pairwise_lt_range.imp (fun {a b} h e => by omega)
theorem EachS.range {n : Nat} {tl : List Int} (h : EachS n tl) : ∀ x ∈ tl, 0 ≤ x ∧ x < (n : Int) := fun x hx => by
  apply Classical.byContradiction
  intro hn
  have hnd : (x :: allN n).Nodup := List.nodup_cons.2 ⟨fun hm => hn (mem_allN.1 hm), allN_nodup n⟩
  have hsub : (x :: allN n) ⊆ tl := fun y hy => by
    rcases List.mem_cons.1 hy with rfl | hy
    · exact hx
    · have := mem_allN.1 hy
      have h2 := h.2 y.toNat (by omega)
      rwa [show ((y.toNat : Nat) : Int) = y from by omega] at h2
  have := hnd.length_le_of_subset hsub
  have h1 := h.1
  rw [List.length_cons, allN_len] at this
  omega

/-- the distinct numbers of a list -/
def addD (L : List Int) (x : Int) : List Int := if x ∈ L then L else L ++ [x]
def dst (xs : List Int) : List Int := xs.foldl addD []
theorem mem_addD {L : List Int} {x y : Int} : y ∈ addD L x ↔ y ∈ L ∨ y = x := by
  unfold addD
  split
  · rename_i h; exact ⟨.inl, fun hh => by rcases hh with hh | rfl; exact hh; exact h⟩
  · simp
theorem addD_nodup {L : List Int} {x : Int} (h : L.Nodup) : (addD L x).Nodup := by
  unfold addD
  split
  · exact h
  · rename_i hx
    rw [List.nodup_append]
    exact ⟨h, by simp, fun a ha b hb e => hx (by rw [List.mem_singleton] at hb; subst hb; rw [← e]; exact ha)⟩
theorem mem_fold : ∀ (xs L : List Int) (y : Int), y ∈ xs.foldl addD L ↔ y ∈ L ∨ y ∈ xs
  | [], L, y => by simp
  | x :: xs, L, y => by
    rw [List.foldl_cons, mem_fold xs, mem_addD, List.mem_cons, or_assoc]
theorem fold_nodup : ∀ (xs L : List Int), L.Nodup → (xs.foldl addD L).Nodup
  | [], L, h => h
  | x :: xs, L, h => by rw [List.foldl_cons]; exact fold_nodup xs _ (addD_nodup h)
theorem mem_dst {xs : List Int} {y : Int} : y ∈ dst xs ↔ y ∈ xs := by unfold dst; rw [mem_fold]; simp
theorem dst_nodup (xs : List Int) : (dst xs).Nodup := fold_nodup xs [] (by simp)
theorem dst_succ {xs : List Int} {k : Nat} {x : Int} (h : xs[k]? = some x) : dst (xs.take (k + 1)) = addD (dst (xs.take k)) x := by
  unfold dst
  rw [List.take_add_one, h, List.foldl_append]; rfl
theorem dst_len (xs : List Int) : (dst xs).length ≤ xs.length := (dst_nodup xs).length_le_of_subset (fun y hy => mem_dst.1 hy)
theorem each_dst {n : Nat} {tl : List Int} (hl : tl.length = n) (hr : ∀ x ∈ tl, 0 ≤ x ∧ x < (n : Int)) : EachS n tl ↔ (dst tl).length = n := by
  constructor
  · intro h
    have h1 : (allN n).length ≤ (dst tl).length := (allN_nodup n).length_le_of_subset (fun y hy => mem_dst.2 (by
      have := mem_allN.1 hy
      have h2 := h.2 y.toNat (by omega)
      rwa [show ((y.toNat : Nat) : Int) = y from by omega] at h2))
    have h2 := dst_len tl
    rw [allN_len] at h1
    omega
  · intro h
    refine ⟨hl, fun k hk => Classical.byContradiction fun hn => ?_⟩
    have hnd : ((k : Int) :: dst tl).Nodup := List.nodup_cons.2 ⟨fun hm => hn (mem_dst.1 hm), dst_nodup tl⟩
    have hsub : ((k : Int) :: dst tl) ⊆ allN n := fun y hy => by
      rcases List.mem_cons.1 hy with rfl | hy
      · exact mem_allN.2 (by omega)
      · exact mem_allN.2 (hr y (mem_dst.1 hy))
    have := hnd.length_le_of_subset hsub
    rw [List.length_cons, allN_len] at this
    omega


end Go.Proofs.YtdhbaegkogklgaaDoor.each
