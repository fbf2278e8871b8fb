/- What the laws do with slices of slices of integers: compare, mark, look at the marks. -/
import Derived.Handy
import Derived.Test.YthgahkkjdpljjaaDoorGrid
import Derived.Test.YthgahkkjdpljjaaDoorGridR
import Derived.Test.YthgahkkjdpljjaaDoorOwn
import Derived.Deep.DeepCutAuto
import Derived.Deep.RegionHeld3
namespace Go.Proofs.YthgahkkjdpljjaaDoor.gridl
open Go.RowKit P2 words edges ints owns grid gridr
set_option linter.unusedVariables false

theorem readsG_of_own {w : World} {B : Nat} {v : Value} {us : List Value} {rows : List (List Int)} (h : OwnG w B v us rows) : ReadsG w v us rows :=
  ⟨Reads.of_own h.1, h.len, fun i u r hu hr => Reads.of_own (h.2.1 i u r hu hr)⟩
def OwnGR (B S : Nat) (w : World) (v : Value) (us : List Value) (rows : List (List Int)) : Prop :=
  OwnG w B v us rows ∧ (∀ k, v.ownBlock = some k → k < S) ∧ ∀ (i : Nat) u k, us[i]? = some u → u.ownBlock = some k → k < S
section
variable {w w' : World} {B S B' S' : Nat} {v : Value} {us : List Value} {rows : List (List Int)}
theorem own_turned {t : TypeId} {size n : Nat} {xs : List Value} (h : w.ownsRow B t size v n xs) (hS : ∀ k, v.ownBlock = some k → k < S) (ht : Turned B' S' w w') (hd : S ≤ B' ∨ S' ≤ B) : w'.ownsRow B t size v n xs :=
  (OwnR.turned (S := S) ⟨h, hS⟩ ht hd).1
theorem OwnGR.new (h : OwnG w B v us rows) : OwnGR B w.heap.size w v us rows :=
  ⟨h, fun k hk => (h.1.lt k hk).2, fun i u k hu hk => by
    obtain ⟨r, hr⟩ : ∃ r, rows[i]? = some r := ⟨_, List.getElem?_eq_getElem (by have := (List.getElem?_eq_some_iff.1 hu).1; have := h.len; omega)⟩
    exact ((h.2.1 i u r hu hr).lt k hk).2⟩
theorem OwnGR.below (h : OwnGR B S w v us rows) (hb : Below w.heap.size w w') : OwnGR B S w' v us rows := ⟨h.1.below hb, h.2⟩
theorem OwnGR.turned (h : OwnGR B S w v us rows) (ht : Turned B' S' w w') (hd : S ≤ B' ∨ S' ≤ B) : OwnGR B S w' v us rows :=
  ⟨⟨own_turned h.1.1 h.2.1 ht hd, fun i u r hu hr => own_turned (h.1.2.1 i u r hu hr) (fun k hk => h.2.2 i u k hu hk) ht hd, h.1.2.2⟩, h.2⟩
theorem OwnGR.reads (h : OwnGR B S w v us rows) : ReadsG w v us rows := readsG_of_own h.1
/-- one row is written anew -/
theorem OwnG.mark {k : Nat} {u : Value} {r r' : List Int} (h : OwnG w B v us rows) (hu : us[k]? = some u) (hr : rows[k]? = some r) (hn : w'.ownsRow B 3 1 u r'.length (cellsI r')) (hl : r'.length = r.length)
    (hg : w.grownBy w' u.ownBlock) : OwnG w' B v us (rows.set k r') := by
  have hu0 := h.2.1 k u r hu hr
  have hk := (List.getElem?_eq_some_iff.1 hr).1
  refine ⟨?_, ?_, h.2.2⟩
  · rw [List.length_set]
    refine h.1.kept hg ?_
    cases hv : v.ownBlock with
    | none => exact .inl rfl
    | some b => exact .inr fun e => own_apart hu0 h.1 tneI b e.symm hv
  · intro i x q hx hq
    by_cases e : i = k
    · subst e
      rw [hu] at hx; cases hx
      rw [List.getElem?_set_self hk] at hq; cases hq
      exact hn
    · rw [List.getElem?_set_ne (fun hh => e hh.symm)] at hq
      refine (h.2.1 i x q hx hq).kept hg ?_
      cases hv : x.ownBlock with
      | none => exact .inl rfl
      | some b =>
        refine .inr fun e2 => ?_
        rcases Nat.lt_or_gt_of_ne e with hlt | hlt
        · exact h.2.2 i k x u b hlt hx hu hv e2.symm
        · exact h.2.2 k i u x b hlt hu hx e2.symm hv
theorem Turned.trans {a b c : World} (h : Turned B S a b) (k : Turned B S b c) : Turned B S a c :=
  ⟨k.os.trans h.os, k.tape.trans h.tape, k.output.trans h.output, Nat.le_trans h.size k.size, fun i hi hd => (k.block i (Nat.lt_of_lt_of_le hi h.size) hd).trans (h.block i hi hd)⟩
theorem Turned.refl (B S : Nat) (w : World) : Turned B S w w := ⟨rfl, rfl, rfl, Nat.le_refl _, fun _ _ _ => rfl⟩
end

def tot (rows : List (List Int)) : Nat := (rows.map List.length).sum
/-- numbers one after the other, in rows as long as those -/
def marksG (m : Nat) : List (List Int) → List (List Int)
  | [] => []
  | r :: rs => marksI m r.length :: marksG (m + r.length) rs
theorem marksG_len : ∀ (rows : List (List Int)) (m : Nat), (marksG m rows).length = rows.length
  | [], _ => rfl
  | r :: rs, m => by simp [marksG, marksG_len rs]
theorem marksG_at : ∀ {rows : List (List Int)} {m k : Nat} {r : List Int}, rows[k]? = some r → (marksG m rows)[k]? = some (marksI (m + tot (rows.take k)) r.length)
  | [], _, _, _, h => by simp at h
  | a :: rs, m, 0, r, h => by
    simp at h; subst h; simp [marksG, tot]
  | a :: rs, m, k + 1, r, h => by
    simp at h
    have := marksG_at (m := m + a.length) h
    simp only [marksG, List.getElem?_cons_succ, this, tot, List.take_succ_cons, List.map_cons, List.sum_cons, Nat.add_assoc]
theorem marksG_tot : ∀ (rows : List (List Int)) (m k : Nat), tot ((marksG m rows).take k) = tot (rows.take k)
  | [], _, _ => by simp [marksG]
  | r :: rs, m, 0 => rfl
  | r :: rs, m, k + 1 => by
    have := marksG_tot rs (m + r.length) k
    simp only [marksG, tot, List.take_succ_cons, List.map_cons, List.sum_cons, marksI_len] at this ⊢
    omega
theorem tot_succ {rows : List (List Int)} {k : Nat} {r : List Int} (h : rows[k]? = some r) : tot (rows.take (k + 1)) = tot (rows.take k) + r.length := by
  unfold tot; rw [List.take_add_one, h]; simp
theorem tot_le (rows : List (List Int)) (k : Nat) : tot (rows.take k) ≤ tot rows := by
  have h : tot rows = tot (rows.take k) + tot (rows.drop k) := by
    unfold tot; rw [← List.sum_append, ← List.map_append, List.take_append_drop]
  omega
/-- the first k rows marked -/
def markTo (m : Nat) (rows : List (List Int)) (k : Nat) : List (List Int) := (marksG m rows).take k ++ rows.drop k
theorem markTo_len {m k : Nat} {rows : List (List Int)} (h : k ≤ rows.length) : (markTo m rows k).length = rows.length := by
  unfold markTo; rw [List.length_append, List.length_take, marksG_len, List.length_drop]; omega
theorem markTo_zero (m : Nat) (rows : List (List Int)) : markTo m rows 0 = rows := by simp [markTo]
theorem markTo_all (m : Nat) (rows : List (List Int)) : markTo m rows rows.length = marksG m rows := by
  unfold markTo; rw [List.drop_length, List.append_nil, ← marksG_len rows m, List.take_length]
theorem markTo_at {m k : Nat} {rows : List (List Int)} {r : List Int} (h : rows[k]? = some r) : (markTo m rows k)[k]? = some r := by
  have hk := (List.getElem?_eq_some_iff.1 h).1
  unfold markTo
  rw [List.getElem?_append_right (by rw [List.length_take, marksG_len]; omega), List.length_take, marksG_len, Nat.min_eq_left (by omega), Nat.sub_self, List.getElem?_drop]
  exact h
theorem markTo_set {m k : Nat} {rows : List (List Int)} {r : List Int} (h : rows[k]? = some r) : (markTo m rows k).set k (marksI (m + tot (rows.take k)) r.length) = markTo m rows (k + 1) := by
  have hk := (List.getElem?_eq_some_iff.1 h).1
  have hl : ((marksG m rows).take k).length = k := by rw [List.length_take, marksG_len]; omega
  unfold markTo
  rw [List.set_append_right _ _ (by omega), hl, Nat.sub_self, List.drop_eq_getElem_cons hk, List.set_cons_zero, List.take_add_one, marksG_at h]
  simp



set_option maxHeartbeats 1000000 in
theorem eqIntSS_own (a b : Value) (us ub : List Value) (rows : List (List Int)) (w : World) (ha : ReadsG w a us rows) (hb : ReadsG w b ub rows) (hl : tot rows ≤ 1048576) (hn : rows.length ≤ 1048576) :
    Calls Tryd.prog 11 #[a, b] w fun e w' => e = .returned (.bool true) ∧ Below w.heap.size w w' := by
  have HA := Lib.hid ha
  have HB := Lib.hid hb
  obtain ⟨A, c, rfl, -⟩ := ha.1
  obtain ⟨A2, c2, rfl, -⟩ := hb.1
  have hself : ((rows.length : Int) != (rows.length : Int)) = false := by simp
  clear ha hb
  go_enter Tryd.func11, Tryd.ntmps11
  go_wp2_with fail
  go_loopg [5] rows.length (fun g i wr => ∃ k : Nat, k + g = rows.length ∧ i = .int .i64 (k : Int) ∧ Below w.heap.size w wr)
  case atStart => exact ⟨0, by omega, rfl, Below.refl _ _⟩
  case round =>
    obtain ⟨k, hkg, rfl, hB⟩ := hrel
    cases gk with
    | zero =>
      obtain rfl : k = rows.length := by omega
      go_wp2_with fail
      go_ret
      exact ⟨rfl, hB⟩
    | succ g2 =>
      have hlt : k < rows.length := by omega
      have hlt' : (k : Int) < (rows.length : Int) := by omega
      obtain ⟨r, hr⟩ : ∃ r, rows[k]? = some r := ⟨_, List.getElem?_eq_getElem hlt⟩
      obtain ⟨u, g, o, hu, rfl, c0, hru⟩ := (HA.out.below hB).row hr
      obtain ⟨u2, gg, oo, hu2, rfl, c1, hru2⟩ := (HB.out.below hB).row hr
      have hrl : r.length ≤ 1048576 := by have := tot_succ hr; have := tot_le rows (k + 1); omega
      have HE := Lib.hid (fun (W : World) (hW : Below wr.heap.size wr W) => eqIntS_own u u2 r W (hru.below hW) (hru2.below hW) hrl)
      have HC := Lib.hid (And.intro c0 c1)
      have HBB := Lib.hid hB
      clear hu hu2 hru hru2 hr hrl hB
      go_wp2_with fail
      go_region_held3 (fun w' => w'.cell? ⟨g, o + k, none⟩ = some u ∧ w'.cell? ⟨gg, oo + k, none⟩ = some u2) (go_keep)
        ((go_at_call 21; refine (HE.out _ (by go_grown)).mono ?_; rintro e w3 ⟨rfl, b3⟩; have d3 : Below wr.heap.size wr w3 := (Below.refl _ _).drew.trans b3; have k0 : w3.cell? ⟨g, o + k, none⟩ = some u := (d3.cell (World.block_lt_of_cell? wr _ HC.out.1)).trans HC.out.1; have k1 : w3.cell? ⟨gg, oo + k, none⟩ = some u2 := (d3.cell (World.block_lt_of_cell? wr _ HC.out.2)).trans HC.out.2))
      have HB3 := Lib.hid (btrans HBB.out d3)
      clear c0 c1 k0 k1 b3 d3
      go_wp2_with fail
      go_roundg g2
      case measure => omega
      case rel => exact ⟨k + 1, by omega, by go_num, HB3.out⟩
end Go.Proofs.YthgahkkjdpljjaaDoor.gridl
