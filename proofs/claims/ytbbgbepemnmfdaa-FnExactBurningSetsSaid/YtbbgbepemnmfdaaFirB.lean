/- The contract of the model's l8Burn. -/
import Derived.Handy
import Derived.Test.YtbbgbepemnmfdaaFirT
import Derived.Test.YtbbgbepemnmfdaaGrid
import Derived.Deep.DeepCutAuto
import Derived.Deep.AppendLies
import Derived.Deep.RegionHeld3
namespace Go.Proofs.Ytbbgbepemnmfdaa.fires
open Go.RowKit Go.Maps P2 words edges ints good adjs fns sets rets covs balls bitsI bags ups gridr mids grid
set_option linter.unusedVariables false

def cells2 (us : List (Value × Value)) : List Value := us.flatMap fun u : Value × Value => [u.1, u.2]
theorem cells2_len (us : List (Value × Value)) : (cells2 us).length = us.length * 2 := by
  induction us with
  | nil => rfl
  | cons a l ih => simp only [cells2, List.flatMap_cons, List.length_append, List.length_cons, List.length_nil] at ih ⊢; omega
theorem cells2_app (us ws : List (Value × Value)) : cells2 (us ++ ws) = cells2 us ++ cells2 ws := by simp [cells2]
theorem cells2_at : ∀ {us : List (Value × Value)} {k : Nat} {e : Value × Value}, us[k]? = some e → (cells2 us)[k * 2]? = some e.1 ∧ (cells2 us)[k * 2 + 1]? = some e.2
  | [], _, _, h => by simp at h
  | a :: l, 0, e, h => by
    simp at h
    subst h
    exact ⟨rfl, rfl⟩
  | a :: l, k + 1, e, h => by
    have := cells2_at (us := l) (k := k) (e := e) (by simpa using h)
    simp only [cells2, List.flatMap_cons] at this ⊢
    rw [show (k + 1) * 2 = (k * 2) + 2 from by omega, show k * 2 + 2 + 1 = (k * 2 + 1) + 2 from by omega]
    exact this
/-- the fires after 0, 1, .. k rounds, in rows of the call's own -/
def OwnF (w : World) (B n : Nat) (l : List Ed) (x : Nat) (rows : List (List Int)) (k : Nat) (v : Value) (us : List (Value × Value)) : Prop :=
  w.ownsRow B 89 2 v (k + 1) (cells2 us) ∧ us.length = k + 1 ∧ ∀ (j : Nat) (a b : Value), us[j]? = some (a, b) → RowI2 w B a (lB l n x rows j) ∧ RowI2 w B b (lD l n x rows j)
section
variable {w w' : World} {B n x : Nat} {l : List Ed} {rows : List (List Int)} {k : Nat} {v : Value} {us : List (Value × Value)}
theorem OwnF.below (h : OwnF w B n l x rows k v us) (hb : Below w.heap.size w w') : OwnF w' B n l x rows k v us := ⟨own_below h.1 hb, h.2.1, fun j a b hj => ⟨own_below (h.2.2 j a b hj).1 hb, own_below (h.2.2 j a b hj).2 hb⟩⟩
theorem OwnF.base {C : Nat} (h : OwnF w B n l x rows k v us) (hC : C ≤ B) : OwnF w C n l x rows k v us := ⟨own_base h.1 hC, h.2.1, fun j a b hj => ⟨own_base (h.2.2 j a b hj).1 hC, own_base (h.2.2 j a b hj).2 hC⟩⟩
theorem tneIF : (3 : TypeId) ≠ 89 := by decide
theorem own_grownF {w5 w6 : World} {B C : Nat} {x v : Value} {q : List Int} {m : Nat} {xs : List Value} {o : Obj} (ho : w5.ownsRow C 3 1 x q.length (cellsI q)) (hv : w5.ownsRow B 89 2 v m xs) (hg : (w5.alloc o).grownBy w6 v.ownBlock) : w6.ownsRow C 3 1 x q.length (cellsI q) :=
  (ho.alloc o).kept hg (by
    cases hh : x.ownBlock with
    | none => exact .inl rfl
    | some k => exact .inr (fun e => own_apart ho hv tneIF k hh e.symm))
theorem OwnF.push {w5 w6 : World} {v6 a b : Value} {o : Obj} (h : OwnF w B n l x rows k v us) (hb : Below w.heap.size w w5) (h1 : RowI2 w5 B a (lB l n x rows (k + 1))) (h2 : RowI2 w5 B b (lD l n x rows (k + 1)))
    (hown : w6.ownsRow B 89 2 v6 (k + 1 + 1) (cells2 us ++ [a, b])) (hg : (w5.alloc o).grownBy w6 v.ownBlock) : OwnF w6 B n l x rows (k + 1) v6 (us ++ [(a, b)]) := by
  have h5 := h.below hb
  refine ⟨by rw [cells2_app]; exact hown, by rw [List.length_append, h.2.1]; rfl, fun j y z hj => ?_⟩
  by_cases hlt : j < us.length
  · rw [List.getElem?_append_left hlt] at hj
    have h9 := h5.2.2 j y z hj
    exact ⟨own_grownF h9.1 h5.1 hg, own_grownF h9.2 h5.1 hg⟩
  · have hj' : j = us.length := by
      have := (List.getElem?_eq_some_iff.1 hj).1
      simp at this; omega
    subst hj'
    rw [List.getElem?_append_right (Nat.le_refl _), Nat.sub_self] at hj
    simp at hj
    obtain ⟨rfl, rfl⟩ := hj
    rw [h.2.1]
    exact ⟨own_grownF h1 h5.1 hg, own_grownF h2 h5.1 hg⟩
theorem OwnF.at_ (h : OwnF w B n l x rows k v us) {j : Nat} (hj : j ≤ k) : ∃ a b g c, us[j]? = some (a, b) ∧ v = .slice (some ⟨g, 0, none⟩) (k + 1) c ∧ w.cell? ⟨g, j * 2, none⟩ = some a ∧ w.cell? ⟨g, j * 2 + 1, none⟩ = some b ∧ RowI2 w B a (lB l n x rows j) ∧ RowI2 w B b (lD l n x rows j) := by
  obtain ⟨⟨a, b⟩, hab⟩ : ∃ e, us[j]? = some e := ⟨_, List.getElem?_eq_getElem (by have := h.2.1; omega)⟩
  rcases h.1.2 with ⟨_, h0⟩ | ⟨g, cap, cur, rfl, hrest⟩
  · omega
  · have hc := fun i hi => h.1.cellAt i hi
    have hl := cells2_len us
    have h9 := h.2.1
    refine ⟨a, b, g, cap, hab, rfl, ?_, ?_, h.2.2 j a b hab⟩
    · rw [hc (j * 2) (by omega), (cells2_at hab).1]
    · rw [hc (j * 2 + 1) (by omega), (cells2_at hab).2]
end
theorem infoFi : (Try.prog.info? 89).map (fun i => (i.zero, i.size, i.bytes)) = some (some (.agg #[.slice none 0 0, .slice none 0 0]), 2, 48) := by kernel_rfl
theorem keep_al {w : World} {p : Addr} {v : Value} {o : Obj} (h : w.cell? p = some v) : (w.alloc o).cell? p = some v :=
  ((Below.refl w.heap.size w).alloc (Nat.le_refl _) o |>.cell (p := p) (World.block_lt_of_cell? w p h)).trans h
theorem ones_le8 (b : Nat) : onesN b ≤ 8 := nw_len _ _
theorem st_mono (l : List Ed) (n x : Nat) (rows : List (List Int)) (k : Nat) : onesN (stF l n x rows k).1 ≤ onesN (stF l n x rows (k + 1)).1 := ones_mono fun j _ hj => by
  unfold bitB at hj ⊢
  show ((stF l n x rows k).1 ||| _).testBit j = true
  rw [Nat.testBit_or, hj]; rfl
theorem st_rest {l : List Ed} {n x : Nat} {rows : List (List Int)} {k : Nat} (hk : rows.length ≤ k) : stF l n x rows (k + 1) = aftF l n (stF l n x rows k) 0 := by
  show aftF l n (stF l n x rows k) (if k < rows.length then codeL (rows.getD k []) else 0) = _
  rw [if_neg (by omega)]
theorem st_grow {l : List Ed} {n x : Nat} {rows : List (List Int)} {k : Nat} (hn : n ≤ 8) (hf : FrOk n (stF l n x rows k)) (hk : rows.length ≤ k) (h : thrN l n (stF l n x rows k).1 (stF l n x rows k).2 ≠ 0) : onesN (stF l n x rows k).1 < onesN (stF l n x rows (k + 1)).1 := by
  have := thr_more hn hf h
  rw [st_rest hk]
  show _ < onesN ((stF l n x rows k).1 ||| thrN l n (stF l n x rows k).1 ((stF l n x rows k).2 ||| 0))
  rw [Nat.or_zero]
  exact this
theorem thr_len {n t : Nat} (hn : n ≤ 8) (ht : t < 2 ^ n) : (nw (bitB t) n).length = 0 ↔ t = 0 := by
  constructor
  · intro h
    have := code_nw ht
    rw [List.eq_nil_of_length_eq_zero h] at this
    exact this.symm
  · rintro rfl
    rw [nw_zero]; rfl
set_option maxHeartbeats 4000000 in
set_option maxRecDepth 100000 in
theorem l8Burn_any (n x : Nat) (v : Value) (A2 : Option Addr) (c2 : Nat) (qs : List Value) (rows : List (List Int)) (l : List Ed) (w : World) (h : Edges w v l) (hl : l.length ≤ 1048576) (hn : n ≤ 8) (hx : x < n) (hp : ReadsG w (.slice A2 rows.length c2) qs rows) (hr8 : rows.length ≤ 8) (hrr : ∀ r ∈ rows, r.length ≤ 1048576) (hso : ∀ i, i < rows.length → SetOk (n : Int) l (rows.getD i [])) :
    Calls Try.prog 77 #[.agg #[.int .i64 (n : Int), v], .int .i64 (x : Int), .slice A2 rows.length c2] w fun e w' => ∃ N y us, e = .returned y ∧ EndP l n x rows N ∧ N ≤ 16 ∧ OwnF w' w.heap.size n l x rows N y us ∧ Below w.heap.size w w' := by
  obtain ⟨i0, hi, hz0, hz1, hz2⟩ := info_parts infoFi
  obtain ⟨A, c, rfl, -⟩ := h.form
  have H := Lib.hid h
  have HP := Lib.hid hp
  have HRR := Lib.hid hrr
  have HSO := Lib.hid hso
  have HFK := Lib.hid (fun k => st_ok (d := 0) (l := l) (rows := rows) hx hso k)
  have H0B : Hid (lB l n x rows 0 = [(x : Int)]) := nw_one hx
  have H0D : Hid (lD l n x rows 0 = []) := nw_zero n
  have g1 := ((Blk.new w 29 #[.int .i64 (n : Int), .slice A l.length c]).alloc (.cells #[.int .i64 (x : Int)] 3)).alloc (.cells #[.slice (some ⟨w.heap.size + 1, 0, none⟩) 1 1, .slice none 0 0] 89)
  have bx : Below w.heap.size w (((w.alloc (.cells #[.int .i64 (n : Int), .slice A l.length c] 29)).alloc (.cells #[.int .i64 (x : Int)] 3)).alloc (.cells #[.slice (some ⟨w.heap.size + 1, 0, none⟩) 1 1, .slice none 0 0] 89)) := (((Below.refl _ _).alloc (Nat.le_refl _) _).alloc (by simp) _).alloc (by rw [World.size_alloc, World.size_alloc]; exact Nat.le_trans (Nat.le_add_right _ _) (Nat.le_add_right _ _)) _
  have o1 := own_new1 (w.alloc (.cells #[.int .i64 (n : Int), .slice A l.length c] 29)) 3 (x : Int)
  rw [World.size_alloc] at o1
  have o2 := World.ownsRow_lit (base := w.heap.size) (e := 89) (size := 2) ((w.alloc (.cells #[.int .i64 (n : Int), .slice A l.length c] 29)).alloc (.cells #[.int .i64 (x : Int)] 3)) #[.slice (some ⟨w.heap.size + 1, 0, none⟩) 1 1, .slice none 0 0] 1 (by rw [World.size_alloc, World.size_alloc]; exact Nat.le_trans (Nat.le_add_right _ _) (Nat.le_add_right _ _)) (by unfold maxLen; omega) rfl
  rw [World.size_alloc, World.size_alloc] at o2
  have HO0 : Hid (OwnF (((w.alloc (.cells #[.int .i64 (n : Int), .slice A l.length c] 29)).alloc (.cells #[.int .i64 (x : Int)] 3)).alloc (.cells #[.slice (some ⟨w.heap.size + 1, 0, none⟩) 1 1, .slice none 0 0] 89)) w.heap.size n l x rows 0 (.slice (some ⟨w.heap.size + 1 + 1, 0, none⟩) 1 1) [(.slice (some ⟨w.heap.size + 1, 0, none⟩) 1 1, .slice none 0 0)]) := by
    refine ⟨o2, rfl, fun j a b hj => ?_⟩
    have hj0 : j = 0 := by have := (List.getElem?_eq_some_iff.1 hj).1; simp at this; omega
    subst hj0
    simp at hj
    obtain ⟨rfl, rfl⟩ := hj
    rw [H0B.out, H0D.out]
    exact ⟨own_base (World.ownsRow.alloc o1 _) (Nat.le_add_right _ _), World.ownsRow_nil _ _ _ _⟩
  have HG0 := Lib.hid g1
  have HE0 := Lib.hid bx
  have HT0 : Hid (∀ j, rows.length ≤ j → j < 0 → thrN l n (stF l n x rows j).1 (stF l n x rows j).2 ≠ 0) := fun j _ hj => by omega
  have HM0 := Lib.hid (ones_le8 (stF l n x rows 0).1)
  clear g1 bx o1 o2 h hp hrr hso H0B H0D
  go_enter Try.func77, Try.ntmps77
  go_wp2_with fail
  go_loopg [7, 8] (rows.length + 8) (fun g ov iv wr => ∃ (k : Nat) (ow : Value) (us : List (Value × Value)), ow = ov ∧ (rows.length - k) + (8 - onesN (stF l n x rows k).1) ≤ g ∧ k + g ≤ 16 ∧ iv = .int .i64 (k : Int) ∧ Hid (∀ j, rows.length ≤ j → j < k → thrN l n (stF l n x rows j).1 (stF l n x rows j).2 ≠ 0) ∧ OwnF wr w.heap.size n l x rows k ow us ∧ Blk wr w.heap.size 29 #[.int .i64 (n : Int), .slice A l.length c] ∧ Below w.heap.size w wr)
  case atStart => exact ⟨0, _, _, rfl, by omega, by omega, rfl, HT0, HO0.out, HG0.out, HE0.out⟩
  case round =>
    clear HO0 HG0 HE0 HT0 HM0
    obtain ⟨k, ow, us, rfl, hmg, hkg, rfl, htn, hos, hgb, hB⟩ := hrel
    obtain ⟨a, b, gs, c4, hab, rfl, m0, m1, ha, hb⟩ := hos.at_ (Nat.le_refl k)
    obtain ⟨Aa, ca, rfl⟩ := own_form ha
    obtain ⟨Ab, cb, rfl⟩ := own_form hb
    obtain ⟨p0, p1, -, -⟩ := hgb.two
    have HOS := Lib.hid hos
    have HG := Lib.hid hgb
    have HE := Lib.hid hB
    have HA := Lib.hid ha
    have HB := Lib.hid hb
    have hk16 : k ≤ 16 := by omega
    have HMC := Lib.hid (And.intro m0 m1)
    have hkk : (k : Int) < (k : Int) + 1 := by omega
    have HMO := Lib.hid (st_mono l n x rows k)
    have HO8 := Lib.hid (ones_le8 (stF l n x rows (k + 1)).1)
    have HO8k := Lib.hid (ones_le8 (stF l n x rows k).1)
    have HFR := Lib.hid (HFK.out k)
    have HRO0 := Lib.hid (fun (xs : List Int) (u : Value) (W : World) (hW : Below wr.heap.size wr W) (hu : Ints W u xs) (hxl : xs.length ≤ 1048576) (hxs : ∀ y ∈ xs, 0 ≤ y ∧ y < (n : Int)) => l8Round_any n (stF l n x rows k) (.slice A l.length c) (.slice Aa (lB l n x rows k).length ca) (.slice Ab (lD l n x rows k).length cb) u l xs W (H.out.below (btrans HE.out hW)) hl HFR.out hn ((show Ints wr _ (lB l n x rows k) from Reads.of_own HA.out).below hW) ((show Ints wr _ (lD l n x rows k) from Reads.of_own HB.out).below hW) hu hxl hxs)
    by_cases hk : k < rows.length
    · have hk' : (k : Int) < (rows.length : Int) := by omega
      have hkd : decide ((k : Int) < (rows.length : Int)) = true := decide_eq_true hk'
      obtain ⟨r, hr⟩ : ∃ r, rows[k]? = some r := ⟨_, List.getElem?_eq_getElem hk⟩
      have HRK : Hid (rows.getD k [] = r) := by show _ = _; rw [List.getD_eq_getElem?_getD, hr]; rfl
      obtain ⟨u, g5, o5, hu, rfl, q5, hri⟩ := HP.out.row hr
      obtain ⟨A7, c7, rfl, -⟩ := hri.form
      have HRI := Lib.hid hri
      have HRL := Lib.hid (HRR.out r (List.mem_of_getElem? hr))
      have hso := HSO.out k hk
      rw [HRK.out] at hso
      have HMS : Hid ((rows.length - (k + 1)) + (8 - onesN (stF l n x rows (k + 1)).1) + 1 ≤ gk ∧ k + 1 + (gk - 1) ≤ 16 ∧ gk ≠ 0) := by
        have := HMO.out; have := HO8.out; have := HO8k.out
        refine ⟨by omega, by omega, by omega⟩
      have HS1 : Hid (stF l n x rows (k + 1) = aftF l n (stF l n x rows k) (codeL r)) := by
        show aftF l n (stF l n x rows k) (if k < rows.length then codeL (rows.getD k []) else 0) = _
        rw [if_pos hk, HRK.out]
      have HTN : Hid (∀ j, rows.length ≤ j → j < k + 1 → thrN l n (stF l n x rows j).1 (stF l n x rows j).2 ≠ 0) := fun j h1 h2 => htn.out j h1 (by omega)
      have HRO1 := Lib.hid (fun (W : World) (hW : Below wr.heap.size wr W) => HRO0.out r (.slice A7 r.length c7) W hW (HRI.out.below (btrans HE.out hW)) HRL.out (fun y hy => hso.2.1 y hy))
      rw [← HS1.out] at HRO1
      have q6 := nearv.cell_keep q5 hB
      have HQ := Lib.hid q5
      clear hr hu q5 hri hos hgb hB ha hb hso HRO0 hmg hkg
      go_wp2_with fail
      refine wp_region_held_drew (S := (fun w' : World => w'.cell? ⟨w.heap.size, 0, none⟩ = some (.int .i64 (n : Int)) ∧ w'.cell? ⟨w.heap.size, 1, none⟩ = some (.slice A l.length c))) (by kernel_rfl) (by (try dsimp only); simp [*]) (fun hHeld => ?_)
      change wpAnyH _ _ _ _ _ _ #[false, false, false, false, false, false, false, false, false, false, false, false, false, false] _ _
      refine wpAnyH_take (i := 0) (oi := ⟨some 14, _, _, _, _, _⟩) (v := ?_) rfl (by kernel_rfl) (by kernel_rfl) (by kernel_rfl) (fun _ _ _ h => h) (Or.inl ⟨by rfl, ?_⟩) (by assumption) ?_
      rotate_left
      · (intro w hSw; (try dsimp only at hSw); go_simp; (try (with_reducible rfl)))
      try simp only [Act.put, List.setIfInBounds_toArray, List.set_cons_zero, List.set_cons_succ]
      refine wpAnyH_take (i := 1) (oi := ⟨some 15, _, _, _, _, _⟩) (v := ?_) rfl (by kernel_rfl) (by kernel_rfl) (by kernel_rfl) (fun _ _ _ h => h) (Or.inl ⟨by rfl, ?_⟩) (by assumption) ?_
      rotate_left
      · (intro w hSw; (try dsimp only at hSw); go_simp; (try (with_reducible rfl)))
      try simp only [Act.put, List.setIfInBounds_toArray, List.set_cons_zero, List.set_cons_succ]
      refine wpAnyH_take (i := 2) (oi := ⟨some 16, _, _, _, _, _⟩) (v := ?_) rfl (by kernel_rfl) (by kernel_rfl) (by kernel_rfl) (fun _ _ _ h => h) (Or.inl ⟨by rfl, ?_⟩) (by assumption) ?_
      rotate_left
      · (intro w hSw; (try dsimp only at hSw); go_simp; (try (with_reducible rfl)))
      try simp only [Act.put, List.setIfInBounds_toArray, List.set_cons_zero, List.set_cons_succ]
      refine wpAnyH_take (i := 3) (oi := ⟨some 17, _, _, _, _, _⟩) (v := ?_) rfl (by kernel_rfl) (by kernel_rfl) (by kernel_rfl) (fun _ _ _ h => h) (Or.inl ⟨by rfl, ?_⟩) (by assumption) ?_
      rotate_left
      · (intro w hSw; (try dsimp only at hSw); go_simp; (try (with_reducible rfl)))
      try simp only [Act.put, List.setIfInBounds_toArray, List.set_cons_zero, List.set_cons_succ]
      refine wpAnyH_take (i := 4) (oi := ⟨some 18, _, _, _, _, _⟩) (v := ?_) rfl (by kernel_rfl) (by kernel_rfl) (by kernel_rfl) (fun _ _ _ h => h) (Or.inl ⟨by rfl, ?_⟩) (by assumption) ?_
      rotate_left
      · (intro w hSw; (try dsimp only at hSw); go_simp; (try (with_reducible rfl)))
      try simp only [Act.put, List.setIfInBounds_toArray, List.set_cons_zero, List.set_cons_succ]
      refine wpAnyH_take (i := 5) (oi := ⟨some 19, _, _, _, _, _⟩) (v := undef) rfl (by kernel_rfl) (by kernel_rfl) (by kernel_rfl) (fun _ _ _ h => h) (Or.inr ⟨by rfl, rfl⟩) (by assumption) ?_
      try simp only [Act.put, List.setIfInBounds_toArray, List.set_cons_zero, List.set_cons_succ]
      refine wpAnyH_take (i := 6) (oi := ⟨some 20, _, _, _, _, _⟩) (v := undef) rfl (by kernel_rfl) (by kernel_rfl) (by kernel_rfl) (fun _ _ _ h => h) (Or.inr ⟨by rfl, rfl⟩) (by assumption) ?_
      try simp only [Act.put, List.setIfInBounds_toArray, List.set_cons_zero, List.set_cons_succ]
      refine wpAnyH_take (i := 7) (oi := ⟨some 21, _, _, _, _, _⟩) (v := undef) rfl (by kernel_rfl) (by kernel_rfl) (by kernel_rfl) (fun _ _ _ h => h) (Or.inr ⟨by rfl, rfl⟩) (by assumption) ?_
      try simp only [Act.put, List.setIfInBounds_toArray, List.set_cons_zero, List.set_cons_succ]
      refine wpAnyH_take (i := 8) (oi := ⟨some 22, _, _, _, _, _⟩) (v := undef) rfl (by kernel_rfl) (by kernel_rfl) (by kernel_rfl) (fun _ _ _ h => h) (Or.inr ⟨by rfl, rfl⟩) (by assumption) ?_
      try simp only [Act.put, List.setIfInBounds_toArray, List.set_cons_zero, List.set_cons_succ]
      refine wpAnyH_take (i := 9) (oi := ⟨some 23, _, _, _, _, _⟩) (v := undef) rfl (by kernel_rfl) (by kernel_rfl) (by kernel_rfl) (fun _ _ _ h => h) (Or.inr ⟨by rfl, rfl⟩) (by assumption) ?_
      try simp only [Act.put, List.setIfInBounds_toArray, List.set_cons_zero, List.set_cons_succ]
      refine wpAnyH_take (i := 10) (oi := ⟨some 24, _, _, _, _, _⟩) (v := undef) rfl (by kernel_rfl) (by kernel_rfl) (by kernel_rfl) (fun _ _ _ h => h) (Or.inr ⟨by rfl, rfl⟩) (by assumption) ?_
      try simp only [Act.put, List.setIfInBounds_toArray, List.set_cons_zero, List.set_cons_succ]
      refine wpAnyH_take (i := 11) (oi := ⟨some 25, _, _, _, _, _⟩) (v := undef) rfl (by kernel_rfl) (by kernel_rfl) (by kernel_rfl) (fun _ _ _ h => h) (Or.inr ⟨by rfl, rfl⟩) (by assumption) ?_
      try simp only [Act.put, List.setIfInBounds_toArray, List.set_cons_zero, List.set_cons_succ]
      refine wpAnyH_take (i := 12) (oi := ⟨some 26, _, _, _, _, _⟩) (v := undef) rfl (by kernel_rfl) (by kernel_rfl) (by kernel_rfl) (fun _ _ _ h => h) (Or.inr ⟨by rfl, rfl⟩) (by assumption) ?_
      try simp only [Act.put, List.setIfInBounds_toArray, List.set_cons_zero, List.set_cons_succ]
      refine wpAnyH_take (i := 13) (oi := ⟨some 27, _, _, _, _, _⟩) (v := ?_) rfl (by kernel_rfl) (by kernel_rfl) (by kernel_rfl) (fun _ _ _ h => h) (Or.inl ⟨by rfl, ?_⟩) (by assumption) ?_
      rotate_left
      · (intro w hSw; (try dsimp only at hSw); go_simp; (try (with_reducible rfl)))
      try simp only [Act.put, List.setIfInBounds_toArray, List.set_cons_zero, List.set_cons_succ]
      refine wpAnyH_done (by kernel_rfl) ?_ _
      clear hHeld
      have q7 := keep_al (o := .cells #[] 3) q6
      go_wp2_with fail
      have hby : Below wr.heap.size wr (wr.alloc (.cells #[] 3)).drew := ((Below.refl _ _).alloc (Nat.le_refl _) _).drew
      obtain ⟨wy, hwy⟩ : ∃ wy, wy = (wr.alloc (.cells #[] 3)).drew := ⟨_, rfl⟩
      rw [← hwy] at hby ⊢
      have HGY := Lib.hid (HG.out.below hby HG.out.lt)
      have HSY := Lib.hid (HOS.out.below hby)
      have HEY := Lib.hid (btrans HE.out hby)
      have HRO : Hid (∀ (W : World) (hW : Below wy.heap.size wy W), Calls Try.prog 114 #[.agg #[.int .i64 (n : Int), .slice A l.length c], .agg #[.slice Aa (lB l n x rows k).length ca, .slice Ab (lD l n x rows k).length cb], .slice A7 r.length c7] W fun e w' => ∃ A1 c1 A3 c3, e = .returned (.agg #[.slice A1 (lB l n x rows (k + 1)).length c1, .slice A3 (lD l n x rows (k + 1)).length c3]) ∧ RowI2 w' W.heap.size (.slice A1 (lB l n x rows (k + 1)).length c1) (lB l n x rows (k + 1)) ∧ RowI2 w' W.heap.size (.slice A3 (lD l n x rows (k + 1)).length c3) (lD l n x rows (k + 1)) ∧ Below W.heap.size W w') := fun W hW => HRO1.out W (btrans hby hW)
      clear p0 p1 m0 m1 q6 q7
      obtain ⟨p0, p1, -, -⟩ := HGY.out.two
      have m0 := (nearv.cell_keep HMC.out.1 hby)
      have m1 := (nearv.cell_keep HMC.out.2 hby)
      clear hby hwy HRO1
      refine wp_region_held_drew (S := (fun w' : World => w'.cell? ⟨w.heap.size, 0, none⟩ = some (.int .i64 (n : Int)) ∧ w'.cell? ⟨w.heap.size, 1, none⟩ = some (.slice A l.length c))) (by kernel_rfl) (by (try dsimp only); simp [*]) (fun hHeld => ?_)
      change wpAnyH _ _ _ _ _ _ #[false, false, false, false, false, false, false, false, false, false, false] _ _
      refine wpAnyH_take (i := 0) (oi := ⟨some 39, _, _, _, _, _⟩) (v := ?_) rfl (by kernel_rfl) (by kernel_rfl) (by kernel_rfl) (fun _ _ _ h => h) (Or.inl ⟨by rfl, ?_⟩) (by assumption) ?_
      rotate_left
      · (intro w hSw; (try dsimp only at hSw); go_simp; (try (with_reducible rfl)))
      try simp only [Act.put, List.setIfInBounds_toArray, List.set_cons_zero, List.set_cons_succ]
      refine wpAnyH_take (i := 1) (oi := ⟨some 40, _, _, _, _, _⟩) (v := ?_) rfl (by kernel_rfl) (by kernel_rfl) (by kernel_rfl) (fun _ _ _ h => h) (Or.inl ⟨by rfl, ?_⟩) (by assumption) ?_
      rotate_left
      · (intro w hSw; (try dsimp only at hSw); go_simp; (try (with_reducible rfl)))
      try simp only [Act.put, List.setIfInBounds_toArray, List.set_cons_zero, List.set_cons_succ]
      refine wpAnyH_take (i := 2) (oi := ⟨some 41, _, _, _, _, _⟩) (v := ?_) rfl (by kernel_rfl) (by kernel_rfl) (by kernel_rfl) (fun _ _ _ h => h) (Or.inl ⟨by rfl, ?_⟩) (by assumption) ?_
      rotate_left
      · (intro w hSw; (try dsimp only at hSw); go_simp; (try (with_reducible rfl)))
      try simp only [Act.put, List.setIfInBounds_toArray, List.set_cons_zero, List.set_cons_succ]
      refine wpAnyH_take (i := 3) (oi := ⟨some 42, _, _, _, _, _⟩) (v := ?_) rfl (by kernel_rfl) (by kernel_rfl) (by kernel_rfl) (fun _ _ _ h => h) (Or.inl ⟨by rfl, ?_⟩) (by assumption) ?_
      rotate_left
      · (intro w hSw; (try dsimp only at hSw); go_simp; (try (with_reducible rfl)))
      try simp only [Act.put, List.setIfInBounds_toArray, List.set_cons_zero, List.set_cons_succ]
      refine wpAnyH_take (i := 4) (oi := ⟨some 43, _, _, _, _, _⟩) (v := ?_) rfl (by kernel_rfl) (by kernel_rfl) (by kernel_rfl) (fun _ _ _ h => h) (Or.inl ⟨by rfl, ?_⟩) (by assumption) ?_
      rotate_left
      · (intro w hSw; (try dsimp only at hSw); go_simp; (try (with_reducible rfl)))
      try simp only [Act.put, List.setIfInBounds_toArray, List.set_cons_zero, List.set_cons_succ]
      refine wpAnyH_take (i := 6) (oi := ⟨some 45, _, _, _, _, _⟩) (v := ?_) rfl (by kernel_rfl) (by kernel_rfl) (by kernel_rfl) (fun _ _ _ h => h) (Or.inl ⟨by rfl, ?_⟩) (by assumption) ?_
      rotate_left
      · (intro w hSw; (try dsimp only at hSw); go_simp; (try (with_reducible rfl)))
      try simp only [Act.put, List.setIfInBounds_toArray, List.set_cons_zero, List.set_cons_succ]
      refine wpAnyH_ready (rs := [5]) (by kernel_rfl) (by simp) ?_
      refine AllReadyH.cons rfl (fun K hK => ?_) AllReadyH.nil
      go_simp
      refine hK.out _ _ (hHeld) (fun hHeld => ?_)
      clear hK K
      try simp only [List.setIfInBounds_toArray, List.set_cons_zero, List.set_cons_succ]
      refine wpAnyH_ready (rs := [7]) (by kernel_rfl) (by simp) ?_
      refine AllReadyH.cons (o := ⟨some 46, _, _, _, _, _⟩) rfl (fun K hK => ?_) AllReadyH.nil
      go_simp
      (with_reducible refine (HRO.out wy.drew (Below.refl _ _).drew).mono ?_); rintro e w3 ⟨Aa3, ca3, Ab3, cb3, rfl, o3, o4, b3⟩; have d3 : Below wy.heap.size wy w3 := (Below.refl _ _).drew.trans b3; have HGB3 := Lib.hid (HGY.out.below d3 HGY.out.lt); obtain ⟨k0, k1, -, -⟩ := HGB3.out.two; have HSP3 := Lib.hid (HSY.out.below d3); have hs3 := d3.size; have hs4 := HEY.out.size
      go_wp2_with fail
      refine hK.out _ _ (by (try dsimp only); simp [*]) (fun hHeld => ?_)
      clear hK K
      try simp only [List.setIfInBounds_toArray, List.set_cons_zero, List.set_cons_succ]
      refine wpAnyH_ready (rs := [8]) (by kernel_rfl) (by simp) ?_
      refine AllReadyH.cons rfl (fun K hK => ?_) AllReadyH.nil
      go_simp
      refine hK.out _ _ (⟨keep_al k0, keep_al k1⟩) (fun hHeld => ?_)
      clear hK K
      try simp only [List.setIfInBounds_toArray, List.set_cons_zero, List.set_cons_succ]
      refine wpAnyH_ready (rs := [9]) (by kernel_rfl) (by simp) ?_
      refine AllReadyH.cons rfl (fun K hK => ?_) AllReadyH.nil
      (refine step_append_lies _ rfl (.tmp 39) (.tmp 47) 86 rfl w.heap.size 89 i0 (.agg #[.slice none 0 0, .slice none 0 0]) 2 48 Try.underlying86 hi hz0 hz1 hz2 rfl (by decide) (.slice (some ⟨gs, 0, none⟩) (k + 1) c4) (k + 1) (cells2 us) rfl (HSP3.out.1.alloc _) ⟨w3.heap.size, 0, none⟩ 1 1 [(.slice Aa3 (lB l n x rows (k + 1)).length ca3), (.slice Ab3 (lD l n x rows (k + 1)).length cb3)] rfl rfl (cell_two_new _ _ _ _) (fun x hx => by simp at hx; rcases hx with rfl | rfl <;> rfl) (by decide) (by unfold maxLen; omega) (by omega) (by simp; omega) (w3.heap.size + 1) (by simp) ?_; intro g8 cap8 w8 hown8 hgrow8 lies8 lt8; have hG8 := (HGB3.out.alloc (.cells #[(.slice Aa3 (lB l n x rows (k + 1)).length ca3), (.slice Ab3 (lD l n x rows (k + 1)).length cb3)] 89)).grown hgrow8 (fun e => mids.own_ne HSP3.out.1 HGB3.out (by decide) e.symm); obtain ⟨k3, k4, -, -⟩ := hG8.two; have e8 : Below w.heap.size w w8 := (((btrans HEY.out d3).alloc (by omega) (.cells #[(.slice Aa3 (lB l n x rows (k + 1)).length ca3), (.slice Ab3 (lD l n x rows (k + 1)).length cb3)] 89)).grown hgrow8 (by simp; omega) (fun j e => (HSP3.out.1.lt j e).1)))
      refine hK.out _ _ (⟨k3, k4⟩) (fun hHeld => ?_)
      clear hK K
      try simp only [Act.put, List.setIfInBounds_toArray, List.set_cons_zero, List.set_cons_succ]
      refine wpAnyH_take (i := 10) (oi := ⟨some 7, _, _, _, _, _⟩) (v := ?_) rfl (by kernel_rfl) (by kernel_rfl) (by kernel_rfl) (fun _ _ _ h => h) (Or.inl ⟨by rfl, ?_⟩) (by assumption) ?_
      rotate_left
      · (intro w hSw; (try dsimp only at hSw); go_simp; (try (with_reducible rfl)))
      try simp only [Act.put, List.setIfInBounds_toArray, List.set_cons_zero, List.set_cons_succ]
      refine wpAnyH_done (by kernel_rfl) ?_ _
      have HS8 := Lib.hid (OwnF.push HSY.out d3 (own_base o3 HEY.out.drew.size) (own_base o4 HEY.out.drew.size) hown8 hgrow8)
      have HG8 := Lib.hid hG8
      have HE8 := Lib.hid e8
      clear hG8 e8 hown8 hgrow8 lies8 lt8 o3 o4 b3 d3 k0 k1 k3 k4 p0 p1 m0 m1 hHeld
      go_wp2_with fail
      go_roundg (gk - 1)
      case measure => have := HMS.out; omega
      case rel => exact ⟨k + 1, _, _, rfl, by have := HMS.out; omega, by have := HMS.out; omega, by go_num, HTN, HS8.out, HG8.out, HE8.out⟩
    · have hk' : ¬ (k : Int) < (rows.length : Int) := by omega
      have hkd : decide ((k : Int) < (rows.length : Int)) = false := decide_eq_false hk'
      have HNX := Lib.hid (l8Next_any n (stF l n x rows k) (.slice A l.length c) (.slice Aa (lB l n x rows k).length ca) (.slice Ab (lD l n x rows k).length cb) l wr.drew (H.out.below hB.drew) hl HFR.out hn ((show Ints wr _ (lB l n x rows k) from Reads.of_own ha).below (Below.refl _ _).drew) ((show Ints wr _ (lD l n x rows k) from Reads.of_own hb).below (Below.refl _ _).drew))
      have hTL := thr_len (t := thrN l n (stF l n x rows k).1 (stF l n x rows k).2) hn (num_lt2 _ _)
      have HSK : Hid (∀ W : World, Below wr.heap.size wr W → W.cell? ⟨w.heap.size, 0, none⟩ = some (.int .i64 (n : Int)) ∧ W.cell? ⟨w.heap.size, 1, none⟩ = some (.slice A l.length c) ∧ W.cell? ⟨gs, k * 2, none⟩ = some (.slice Aa (lB l n x rows k).length ca) ∧ W.cell? ⟨gs, k * 2 + 1, none⟩ = some (.slice Ab (lD l n x rows k).length cb)) := fun W hW => by
        obtain ⟨a0, a1, -, -⟩ := (HG.out.below hW HG.out.lt).two
        exact ⟨a0, a1, nearv.cell_keep HMC.out.1 hW, nearv.cell_keep HMC.out.2 hW⟩
      by_cases hT : thrN l n (stF l n x rows k).1 (stF l n x rows k).2 = 0
      · have hz := hTL.2 hT
        have HEN : Hid (EndP l n x rows k) := ⟨by omega, htn.out, hT⟩
        clear hTL hT hos hgb hB ha hb HRO0
        generalize (nw (bitB (thrN l n (stF l n x rows k).1 (stF l n x rows k).2)) n) = TL at *
        have hld : decide ((0 : Int) < (TL.length : Int)) = false := decide_eq_false (by omega)
        have hlf : ¬ (0 : Int) < (TL.length : Int) := by omega
        go_wp2_with fail
        refine wp_region_held_drew (S := (fun w' : World => w'.cell? ⟨w.heap.size, 0, none⟩ = some (.int .i64 (n : Int)) ∧ w'.cell? ⟨w.heap.size, 1, none⟩ = some (.slice A l.length c) ∧ w'.cell? ⟨gs, k * 2, none⟩ = some (.slice Aa (lB l n x rows k).length ca) ∧ w'.cell? ⟨gs, k * 2 + 1, none⟩ = some (.slice Ab (lD l n x rows k).length cb))) (by kernel_rfl) (by (try dsimp only); simp [*]) (fun hHeld => ?_)
        change wpAnyH _ _ _ _ _ _ #[false, false, false, false, false, false, false, false, false, false, false, false, false, false] _ _
        refine wpAnyH_take (i := 0) (oi := ⟨some 14, _, _, _, _, _⟩) (v := ?_) rfl (by kernel_rfl) (by kernel_rfl) (by kernel_rfl) (fun _ _ _ h => h) (Or.inl ⟨by rfl, ?_⟩) (by assumption) ?_
        rotate_left
        · (intro w hSw; (try dsimp only at hSw); go_simp; (try (with_reducible rfl)))
        try simp only [Act.put, List.setIfInBounds_toArray, List.set_cons_zero, List.set_cons_succ]
        refine wpAnyH_take (i := 1) (oi := ⟨some 15, _, _, _, _, _⟩) (v := ?_) rfl (by kernel_rfl) (by kernel_rfl) (by kernel_rfl) (fun _ _ _ h => h) (Or.inl ⟨by rfl, ?_⟩) (by assumption) ?_
        rotate_left
        · (intro w hSw; (try dsimp only at hSw); go_simp; (try (with_reducible rfl)))
        try simp only [Act.put, List.setIfInBounds_toArray, List.set_cons_zero, List.set_cons_succ]
        refine wpAnyH_take (i := 2) (oi := ⟨some 16, _, _, _, _, _⟩) (v := ?_) rfl (by kernel_rfl) (by kernel_rfl) (by kernel_rfl) (fun _ _ _ h => h) (Or.inl ⟨by rfl, ?_⟩) (by assumption) ?_
        rotate_left
        · (intro w hSw; (try dsimp only at hSw); go_simp; (try (with_reducible rfl)))
        try simp only [Act.put, List.setIfInBounds_toArray, List.set_cons_zero, List.set_cons_succ]
        refine wpAnyH_take (i := 3) (oi := ⟨some 17, _, _, _, _, _⟩) (v := ?_) rfl (by kernel_rfl) (by kernel_rfl) (by kernel_rfl) (fun _ _ _ h => h) (Or.inl ⟨by rfl, ?_⟩) (by assumption) ?_
        rotate_left
        · (intro w hSw; (try dsimp only at hSw); go_simp; (try (with_reducible rfl)))
        try simp only [Act.put, List.setIfInBounds_toArray, List.set_cons_zero, List.set_cons_succ]
        refine wpAnyH_take (i := 4) (oi := ⟨some 18, _, _, _, _, _⟩) (v := ?_) rfl (by kernel_rfl) (by kernel_rfl) (by kernel_rfl) (fun _ _ _ h => h) (Or.inl ⟨by rfl, ?_⟩) (by assumption) ?_
        rotate_left
        · (intro w hSw; (try dsimp only at hSw); go_simp; (try (with_reducible rfl)))
        try simp only [Act.put, List.setIfInBounds_toArray, List.set_cons_zero, List.set_cons_succ]
        refine wpAnyH_take (i := 5) (oi := ⟨some 19, _, _, _, _, _⟩) (v := ?_) rfl (by kernel_rfl) (by kernel_rfl) (by kernel_rfl) (fun _ _ _ h => h) (Or.inl ⟨by rfl, ?_⟩) (by assumption) ?_
        rotate_left
        · (intro w hSw; (try dsimp only at hSw); go_simp; (try (with_reducible rfl)))
        try simp only [Act.put, List.setIfInBounds_toArray, List.set_cons_zero, List.set_cons_succ]
        refine wpAnyH_take (i := 6) (oi := ⟨some 20, _, _, _, _, _⟩) (v := ?_) rfl (by kernel_rfl) (by kernel_rfl) (by kernel_rfl) (fun _ _ _ h => h) (Or.inl ⟨by rfl, ?_⟩) (by assumption) ?_
        rotate_left
        · (intro w hSw; (try dsimp only at hSw); go_simp; (try (with_reducible rfl)))
        try simp only [Act.put, List.setIfInBounds_toArray, List.set_cons_zero, List.set_cons_succ]
        refine wpAnyH_take (i := 7) (oi := ⟨some 21, _, _, _, _, _⟩) (v := ?_) rfl (by kernel_rfl) (by kernel_rfl) (by kernel_rfl) (fun _ _ _ h => h) (Or.inl ⟨by rfl, ?_⟩) (by assumption) ?_
        rotate_left
        · (intro w hSw; (try dsimp only at hSw); go_simp; (try (with_reducible rfl)))
        try simp only [Act.put, List.setIfInBounds_toArray, List.set_cons_zero, List.set_cons_succ]
        refine wpAnyH_take (i := 8) (oi := ⟨some 22, _, _, _, _, _⟩) (v := ?_) rfl (by kernel_rfl) (by kernel_rfl) (by kernel_rfl) (fun _ _ _ h => h) (Or.inl ⟨by rfl, ?_⟩) (by assumption) ?_
        rotate_left
        · (intro w hSw; (try dsimp only at hSw); go_simp; (try (with_reducible rfl)))
        try simp only [Act.put, List.setIfInBounds_toArray, List.set_cons_zero, List.set_cons_succ]
        refine wpAnyH_take (i := 9) (oi := ⟨some 23, _, _, _, _, _⟩) (v := ?_) rfl (by kernel_rfl) (by kernel_rfl) (by kernel_rfl) (fun _ _ _ h => h) (Or.inl ⟨by rfl, ?_⟩) (by assumption) ?_
        rotate_left
        · (intro w hSw; (try dsimp only at hSw); go_simp; (try (with_reducible rfl)))
        try simp only [Act.put, List.setIfInBounds_toArray, List.set_cons_zero, List.set_cons_succ]
        refine wpAnyH_ready (rs := [10]) (by kernel_rfl) (by simp) ?_
        refine AllReadyH.cons (o := ⟨some 24, _, _, _, _, _⟩) rfl (fun K hK => ?_) AllReadyH.nil
        go_simp
        (with_reducible refine HNX.out.mono ?_); rintro e w4 ⟨A9, c9, rfl, o9, b9⟩; have d4 : Below wr.heap.size wr w4 := btrans (Below.refl _ _).drew b9; obtain ⟨k0, k1, k2, k3⟩ := HSK.out w4 d4
        go_wp2_with fail
        refine hK.out _ _ (by (try dsimp only); simp [*]) (fun hHeld => ?_)
        clear hK K
        try simp only [List.setIfInBounds_toArray, List.set_cons_zero, List.set_cons_succ]
        refine wpAnyH_take (i := 11) (oi := ⟨some 25, _, _, _, _, _⟩) (v := ?_) rfl (by kernel_rfl) (by kernel_rfl) (by kernel_rfl) (fun _ _ _ h => h) (Or.inl ⟨by rfl, ?_⟩) (by assumption) ?_
        rotate_left
        · (intro w hSw; (try dsimp only at hSw); go_simp; (try (with_reducible rfl)))
        try simp only [Act.put, List.setIfInBounds_toArray, List.set_cons_zero, List.set_cons_succ]
        refine wpAnyH_take (i := 12) (oi := ⟨some 26, _, _, _, _, _⟩) (v := ?_) rfl (by kernel_rfl) (by kernel_rfl) (by kernel_rfl) (fun _ _ _ h => h) (Or.inl ⟨by rfl, ?_⟩) (by assumption) ?_
        rotate_left
        · (intro w hSw; (try dsimp only at hSw); go_simp; (try (with_reducible rfl)))
        try simp only [Act.put, List.setIfInBounds_toArray, List.set_cons_zero, List.set_cons_succ]
        refine wpAnyH_take (i := 13) (oi := ⟨some 27, _, _, _, _, _⟩) (v := ?_) rfl (by kernel_rfl) (by kernel_rfl) (by kernel_rfl) (fun _ _ _ h => h) (Or.inl ⟨by rfl, ?_⟩) (by assumption) ?_
        rotate_left
        · (intro w hSw; (try dsimp only at hSw); go_simp; (try (with_reducible rfl)))
        try simp only [Act.put, List.setIfInBounds_toArray, List.set_cons_zero, List.set_cons_succ]
        refine wpAnyH_done (by kernel_rfl) ?_ _
        have HO4 := Lib.hid (HOS.out.below d4)
        have HE4 := Lib.hid (btrans HE.out d4)
        clear hHeld k0 k1 k2 k3 d4 b9 o9 p0 p1 m0 m1
        go_wp2_with fail
        go_ret
        exact ⟨k, _, us, rfl, HEN.out, hk16, HO4.out, HE4.out⟩
      · have hz : ¬ (nw (bitB (thrN l n (stF l n x rows k).1 (stF l n x rows k).2)) n).length = 0 := fun h => hT (hTL.1 h)
        have HMS : Hid ((rows.length - (k + 1)) + (8 - onesN (stF l n x rows (k + 1)).1) + 1 ≤ gk ∧ k + 1 + (gk - 1) ≤ 16 ∧ gk ≠ 0) := by
          have h1 := st_grow hn HFR.out (by omega) hT; have := HO8.out; have := HO8k.out
          refine ⟨by omega, by omega, by omega⟩
        have HTN : Hid (∀ j, rows.length ≤ j → j < k + 1 → thrN l n (stF l n x rows j).1 (stF l n x rows j).2 ≠ 0) := fun j h1 h2 => by
          by_cases e : j = k
          · subst e; exact hT
          · exact htn.out j h1 (by omega)
        have HS1 : Hid (stF l n x rows (k + 1) = aftF l n (stF l n x rows k) (codeL [])) := st_rest (by omega)
        have HRO1 := Lib.hid (fun (u : Value) (W : World) (hW : Below wr.heap.size wr W) (hu : Ints W u []) => HRO0.out [] u W hW hu (by simp) (fun y hy => by cases hy))
        rw [← HS1.out] at HRO1
        clear hTL hT hos hgb hB ha hb HRO0 hmg hkg HS1
        generalize (nw (bitB (thrN l n (stF l n x rows k).1 (stF l n x rows k).2)) n) = TL at *
        have hld : decide ((0 : Int) < (TL.length : Int)) = true := decide_eq_true (by omega)
        have hlf : (0 : Int) < (TL.length : Int) := by omega
        go_wp2_with fail
        refine wp_region_held_drew (S := (fun w' : World => w'.cell? ⟨w.heap.size, 0, none⟩ = some (.int .i64 (n : Int)) ∧ w'.cell? ⟨w.heap.size, 1, none⟩ = some (.slice A l.length c) ∧ w'.cell? ⟨gs, k * 2, none⟩ = some (.slice Aa (lB l n x rows k).length ca) ∧ w'.cell? ⟨gs, k * 2 + 1, none⟩ = some (.slice Ab (lD l n x rows k).length cb))) (by kernel_rfl) (by (try dsimp only); simp [*]) (fun hHeld => ?_)
        change wpAnyH _ _ _ _ _ _ #[false, false, false, false, false, false, false, false, false, false, false, false, false, false] _ _
        refine wpAnyH_take (i := 0) (oi := ⟨some 14, _, _, _, _, _⟩) (v := ?_) rfl (by kernel_rfl) (by kernel_rfl) (by kernel_rfl) (fun _ _ _ h => h) (Or.inl ⟨by rfl, ?_⟩) (by assumption) ?_
        rotate_left
        · (intro w hSw; (try dsimp only at hSw); go_simp; (try (with_reducible rfl)))
        try simp only [Act.put, List.setIfInBounds_toArray, List.set_cons_zero, List.set_cons_succ]
        refine wpAnyH_take (i := 1) (oi := ⟨some 15, _, _, _, _, _⟩) (v := ?_) rfl (by kernel_rfl) (by kernel_rfl) (by kernel_rfl) (fun _ _ _ h => h) (Or.inl ⟨by rfl, ?_⟩) (by assumption) ?_
        rotate_left
        · (intro w hSw; (try dsimp only at hSw); go_simp; (try (with_reducible rfl)))
        try simp only [Act.put, List.setIfInBounds_toArray, List.set_cons_zero, List.set_cons_succ]
        refine wpAnyH_take (i := 2) (oi := ⟨some 16, _, _, _, _, _⟩) (v := ?_) rfl (by kernel_rfl) (by kernel_rfl) (by kernel_rfl) (fun _ _ _ h => h) (Or.inl ⟨by rfl, ?_⟩) (by assumption) ?_
        rotate_left
        · (intro w hSw; (try dsimp only at hSw); go_simp; (try (with_reducible rfl)))
        try simp only [Act.put, List.setIfInBounds_toArray, List.set_cons_zero, List.set_cons_succ]
        refine wpAnyH_take (i := 3) (oi := ⟨some 17, _, _, _, _, _⟩) (v := ?_) rfl (by kernel_rfl) (by kernel_rfl) (by kernel_rfl) (fun _ _ _ h => h) (Or.inl ⟨by rfl, ?_⟩) (by assumption) ?_
        rotate_left
        · (intro w hSw; (try dsimp only at hSw); go_simp; (try (with_reducible rfl)))
        try simp only [Act.put, List.setIfInBounds_toArray, List.set_cons_zero, List.set_cons_succ]
        refine wpAnyH_take (i := 4) (oi := ⟨some 18, _, _, _, _, _⟩) (v := ?_) rfl (by kernel_rfl) (by kernel_rfl) (by kernel_rfl) (fun _ _ _ h => h) (Or.inl ⟨by rfl, ?_⟩) (by assumption) ?_
        rotate_left
        · (intro w hSw; (try dsimp only at hSw); go_simp; (try (with_reducible rfl)))
        try simp only [Act.put, List.setIfInBounds_toArray, List.set_cons_zero, List.set_cons_succ]
        refine wpAnyH_take (i := 5) (oi := ⟨some 19, _, _, _, _, _⟩) (v := ?_) rfl (by kernel_rfl) (by kernel_rfl) (by kernel_rfl) (fun _ _ _ h => h) (Or.inl ⟨by rfl, ?_⟩) (by assumption) ?_
        rotate_left
        · (intro w hSw; (try dsimp only at hSw); go_simp; (try (with_reducible rfl)))
        try simp only [Act.put, List.setIfInBounds_toArray, List.set_cons_zero, List.set_cons_succ]
        refine wpAnyH_take (i := 6) (oi := ⟨some 20, _, _, _, _, _⟩) (v := ?_) rfl (by kernel_rfl) (by kernel_rfl) (by kernel_rfl) (fun _ _ _ h => h) (Or.inl ⟨by rfl, ?_⟩) (by assumption) ?_
        rotate_left
        · (intro w hSw; (try dsimp only at hSw); go_simp; (try (with_reducible rfl)))
        try simp only [Act.put, List.setIfInBounds_toArray, List.set_cons_zero, List.set_cons_succ]
        refine wpAnyH_take (i := 7) (oi := ⟨some 21, _, _, _, _, _⟩) (v := ?_) rfl (by kernel_rfl) (by kernel_rfl) (by kernel_rfl) (fun _ _ _ h => h) (Or.inl ⟨by rfl, ?_⟩) (by assumption) ?_
        rotate_left
        · (intro w hSw; (try dsimp only at hSw); go_simp; (try (with_reducible rfl)))
        try simp only [Act.put, List.setIfInBounds_toArray, List.set_cons_zero, List.set_cons_succ]
        refine wpAnyH_take (i := 8) (oi := ⟨some 22, _, _, _, _, _⟩) (v := ?_) rfl (by kernel_rfl) (by kernel_rfl) (by kernel_rfl) (fun _ _ _ h => h) (Or.inl ⟨by rfl, ?_⟩) (by assumption) ?_
        rotate_left
        · (intro w hSw; (try dsimp only at hSw); go_simp; (try (with_reducible rfl)))
        try simp only [Act.put, List.setIfInBounds_toArray, List.set_cons_zero, List.set_cons_succ]
        refine wpAnyH_take (i := 9) (oi := ⟨some 23, _, _, _, _, _⟩) (v := ?_) rfl (by kernel_rfl) (by kernel_rfl) (by kernel_rfl) (fun _ _ _ h => h) (Or.inl ⟨by rfl, ?_⟩) (by assumption) ?_
        rotate_left
        · (intro w hSw; (try dsimp only at hSw); go_simp; (try (with_reducible rfl)))
        try simp only [Act.put, List.setIfInBounds_toArray, List.set_cons_zero, List.set_cons_succ]
        refine wpAnyH_ready (rs := [10]) (by kernel_rfl) (by simp) ?_
        refine AllReadyH.cons (o := ⟨some 24, _, _, _, _, _⟩) rfl (fun K hK => ?_) AllReadyH.nil
        go_simp
        (with_reducible refine HNX.out.mono ?_); rintro e w4 ⟨A9, c9, rfl, o9, b9⟩; have d4 : Below wr.heap.size wr w4 := btrans (Below.refl _ _).drew b9; obtain ⟨k0, k1, k2, k3⟩ := HSK.out w4 d4
        go_wp2_with fail
        refine hK.out _ _ (by (try dsimp only); simp [*]) (fun hHeld => ?_)
        clear hK K
        try simp only [List.setIfInBounds_toArray, List.set_cons_zero, List.set_cons_succ]
        refine wpAnyH_take (i := 11) (oi := ⟨some 25, _, _, _, _, _⟩) (v := ?_) rfl (by kernel_rfl) (by kernel_rfl) (by kernel_rfl) (fun _ _ _ h => h) (Or.inl ⟨by rfl, ?_⟩) (by assumption) ?_
        rotate_left
        · (intro w hSw; (try dsimp only at hSw); go_simp; (try (with_reducible rfl)))
        try simp only [Act.put, List.setIfInBounds_toArray, List.set_cons_zero, List.set_cons_succ]
        refine wpAnyH_take (i := 12) (oi := ⟨some 26, _, _, _, _, _⟩) (v := ?_) rfl (by kernel_rfl) (by kernel_rfl) (by kernel_rfl) (fun _ _ _ h => h) (Or.inl ⟨by rfl, ?_⟩) (by assumption) ?_
        rotate_left
        · (intro w hSw; (try dsimp only at hSw); go_simp; (try (with_reducible rfl)))
        try simp only [Act.put, List.setIfInBounds_toArray, List.set_cons_zero, List.set_cons_succ]
        refine wpAnyH_take (i := 13) (oi := ⟨some 27, _, _, _, _, _⟩) (v := ?_) rfl (by kernel_rfl) (by kernel_rfl) (by kernel_rfl) (fun _ _ _ h => h) (Or.inl ⟨by rfl, ?_⟩) (by assumption) ?_
        rotate_left
        · (intro w hSw; (try dsimp only at hSw); go_simp; (try (with_reducible rfl)))
        try simp only [Act.put, List.setIfInBounds_toArray, List.set_cons_zero, List.set_cons_succ]
        refine wpAnyH_done (by kernel_rfl) ?_ _
        clear hHeld
        go_wp2_with fail
        have hby : Below wr.heap.size wr (w4.alloc (.cells #[] 3)) := d4.alloc d4.size _
        have hu0 : Ints (w4.alloc (.cells #[] 3)) (.slice (some ⟨w4.heap.size, 0, none⟩) 0 0) [] := Reads.of_own (own_new0 w4 3 1)
        obtain ⟨wy, hwy⟩ : ∃ wy, wy = (w4.alloc (.cells #[] 3)) := ⟨_, rfl⟩
        rw [← hwy] at hby hu0 ⊢
        have HGY := Lib.hid (HG.out.below hby HG.out.lt)
        have HSY := Lib.hid (HOS.out.below hby)
        have HEY := Lib.hid (btrans HE.out hby)
        have HRO : Hid (∀ (W : World) (hW : Below wy.heap.size wy W), Calls Try.prog 114 #[.agg #[.int .i64 (n : Int), .slice A l.length c], .agg #[.slice Aa (lB l n x rows k).length ca, .slice Ab (lD l n x rows k).length cb], .slice (some ⟨w4.heap.size, 0, none⟩) 0 0] W fun e w' => ∃ A1 c1 A3 c3, e = .returned (.agg #[.slice A1 (lB l n x rows (k + 1)).length c1, .slice A3 (lD l n x rows (k + 1)).length c3]) ∧ RowI2 w' W.heap.size (.slice A1 (lB l n x rows (k + 1)).length c1) (lB l n x rows (k + 1)) ∧ RowI2 w' W.heap.size (.slice A3 (lD l n x rows (k + 1)).length c3) (lD l n x rows (k + 1)) ∧ Below W.heap.size W w') := fun W hW => HRO1.out (.slice (some ⟨w4.heap.size, 0, none⟩) 0 0) W (btrans hby hW) (hu0.below hW)
        clear p0 p1 m0 m1 k0 k1 k2 k3
        obtain ⟨p0, p1, -, -⟩ := HGY.out.two
        have m0 := (nearv.cell_keep HMC.out.1 hby)
        have m1 := (nearv.cell_keep HMC.out.2 hby)
        clear hby hwy HRO1 d4 b9 o9 hu0
        refine wp_region_held_drew (S := (fun w' : World => w'.cell? ⟨w.heap.size, 0, none⟩ = some (.int .i64 (n : Int)) ∧ w'.cell? ⟨w.heap.size, 1, none⟩ = some (.slice A l.length c))) (by kernel_rfl) (by (try dsimp only); simp [*]) (fun hHeld => ?_)
        change wpAnyH _ _ _ _ _ _ #[false, false, false, false, false, false, false, false, false, false, false] _ _
        refine wpAnyH_take (i := 0) (oi := ⟨some 39, _, _, _, _, _⟩) (v := ?_) rfl (by kernel_rfl) (by kernel_rfl) (by kernel_rfl) (fun _ _ _ h => h) (Or.inl ⟨by rfl, ?_⟩) (by assumption) ?_
        rotate_left
        · (intro w hSw; (try dsimp only at hSw); go_simp; (try (with_reducible rfl)))
        try simp only [Act.put, List.setIfInBounds_toArray, List.set_cons_zero, List.set_cons_succ]
        refine wpAnyH_take (i := 1) (oi := ⟨some 40, _, _, _, _, _⟩) (v := ?_) rfl (by kernel_rfl) (by kernel_rfl) (by kernel_rfl) (fun _ _ _ h => h) (Or.inl ⟨by rfl, ?_⟩) (by assumption) ?_
        rotate_left
        · (intro w hSw; (try dsimp only at hSw); go_simp; (try (with_reducible rfl)))
        try simp only [Act.put, List.setIfInBounds_toArray, List.set_cons_zero, List.set_cons_succ]
        refine wpAnyH_take (i := 2) (oi := ⟨some 41, _, _, _, _, _⟩) (v := ?_) rfl (by kernel_rfl) (by kernel_rfl) (by kernel_rfl) (fun _ _ _ h => h) (Or.inl ⟨by rfl, ?_⟩) (by assumption) ?_
        rotate_left
        · (intro w hSw; (try dsimp only at hSw); go_simp; (try (with_reducible rfl)))
        try simp only [Act.put, List.setIfInBounds_toArray, List.set_cons_zero, List.set_cons_succ]
        refine wpAnyH_take (i := 3) (oi := ⟨some 42, _, _, _, _, _⟩) (v := ?_) rfl (by kernel_rfl) (by kernel_rfl) (by kernel_rfl) (fun _ _ _ h => h) (Or.inl ⟨by rfl, ?_⟩) (by assumption) ?_
        rotate_left
        · (intro w hSw; (try dsimp only at hSw); go_simp; (try (with_reducible rfl)))
        try simp only [Act.put, List.setIfInBounds_toArray, List.set_cons_zero, List.set_cons_succ]
        refine wpAnyH_take (i := 4) (oi := ⟨some 43, _, _, _, _, _⟩) (v := ?_) rfl (by kernel_rfl) (by kernel_rfl) (by kernel_rfl) (fun _ _ _ h => h) (Or.inl ⟨by rfl, ?_⟩) (by assumption) ?_
        rotate_left
        · (intro w hSw; (try dsimp only at hSw); go_simp; (try (with_reducible rfl)))
        try simp only [Act.put, List.setIfInBounds_toArray, List.set_cons_zero, List.set_cons_succ]
        refine wpAnyH_take (i := 6) (oi := ⟨some 45, _, _, _, _, _⟩) (v := ?_) rfl (by kernel_rfl) (by kernel_rfl) (by kernel_rfl) (fun _ _ _ h => h) (Or.inl ⟨by rfl, ?_⟩) (by assumption) ?_
        rotate_left
        · (intro w hSw; (try dsimp only at hSw); go_simp; (try (with_reducible rfl)))
        try simp only [Act.put, List.setIfInBounds_toArray, List.set_cons_zero, List.set_cons_succ]
        refine wpAnyH_ready (rs := [5]) (by kernel_rfl) (by simp) ?_
        refine AllReadyH.cons rfl (fun K hK => ?_) AllReadyH.nil
        go_simp
        refine hK.out _ _ (hHeld) (fun hHeld => ?_)
        clear hK K
        try simp only [List.setIfInBounds_toArray, List.set_cons_zero, List.set_cons_succ]
        refine wpAnyH_ready (rs := [7]) (by kernel_rfl) (by simp) ?_
        refine AllReadyH.cons (o := ⟨some 46, _, _, _, _, _⟩) rfl (fun K hK => ?_) AllReadyH.nil
        go_simp
        (with_reducible refine (HRO.out wy.drew (Below.refl _ _).drew).mono ?_); rintro e w3 ⟨Aa3, ca3, Ab3, cb3, rfl, o3, o4, b3⟩; have d3 : Below wy.heap.size wy w3 := (Below.refl _ _).drew.trans b3; have HGB3 := Lib.hid (HGY.out.below d3 HGY.out.lt); obtain ⟨k0, k1, -, -⟩ := HGB3.out.two; have HSP3 := Lib.hid (HSY.out.below d3); have hs3 := d3.size; have hs4 := HEY.out.size
        go_wp2_with fail
        refine hK.out _ _ (by (try dsimp only); simp [*]) (fun hHeld => ?_)
        clear hK K
        try simp only [List.setIfInBounds_toArray, List.set_cons_zero, List.set_cons_succ]
        refine wpAnyH_ready (rs := [8]) (by kernel_rfl) (by simp) ?_
        refine AllReadyH.cons rfl (fun K hK => ?_) AllReadyH.nil
        go_simp
        refine hK.out _ _ (⟨keep_al k0, keep_al k1⟩) (fun hHeld => ?_)
        clear hK K
        try simp only [List.setIfInBounds_toArray, List.set_cons_zero, List.set_cons_succ]
        refine wpAnyH_ready (rs := [9]) (by kernel_rfl) (by simp) ?_
        refine AllReadyH.cons rfl (fun K hK => ?_) AllReadyH.nil
        (refine step_append_lies _ rfl (.tmp 39) (.tmp 47) 86 rfl w.heap.size 89 i0 (.agg #[.slice none 0 0, .slice none 0 0]) 2 48 Try.underlying86 hi hz0 hz1 hz2 rfl (by decide) (.slice (some ⟨gs, 0, none⟩) (k + 1) c4) (k + 1) (cells2 us) rfl (HSP3.out.1.alloc _) ⟨w3.heap.size, 0, none⟩ 1 1 [(.slice Aa3 (lB l n x rows (k + 1)).length ca3), (.slice Ab3 (lD l n x rows (k + 1)).length cb3)] rfl rfl (cell_two_new _ _ _ _) (fun x hx => by simp at hx; rcases hx with rfl | rfl <;> rfl) (by decide) (by unfold maxLen; omega) (by omega) (by simp; omega) (w3.heap.size + 1) (by simp) ?_; intro g8 cap8 w8 hown8 hgrow8 lies8 lt8; have hG8 := (HGB3.out.alloc (.cells #[(.slice Aa3 (lB l n x rows (k + 1)).length ca3), (.slice Ab3 (lD l n x rows (k + 1)).length cb3)] 89)).grown hgrow8 (fun e => mids.own_ne HSP3.out.1 HGB3.out (by decide) e.symm); obtain ⟨k3, k4, -, -⟩ := hG8.two; have e8 : Below w.heap.size w w8 := (((btrans HEY.out d3).alloc (by omega) (.cells #[(.slice Aa3 (lB l n x rows (k + 1)).length ca3), (.slice Ab3 (lD l n x rows (k + 1)).length cb3)] 89)).grown hgrow8 (by simp; omega) (fun j e => (HSP3.out.1.lt j e).1)))
        refine hK.out _ _ (⟨k3, k4⟩) (fun hHeld => ?_)
        clear hK K
        try simp only [Act.put, List.setIfInBounds_toArray, List.set_cons_zero, List.set_cons_succ]
        refine wpAnyH_take (i := 10) (oi := ⟨some 7, _, _, _, _, _⟩) (v := ?_) rfl (by kernel_rfl) (by kernel_rfl) (by kernel_rfl) (fun _ _ _ h => h) (Or.inl ⟨by rfl, ?_⟩) (by assumption) ?_
        rotate_left
        · (intro w hSw; (try dsimp only at hSw); go_simp; (try (with_reducible rfl)))
        try simp only [Act.put, List.setIfInBounds_toArray, List.set_cons_zero, List.set_cons_succ]
        refine wpAnyH_done (by kernel_rfl) ?_ _
        have HS8 := Lib.hid (OwnF.push HSY.out d3 (own_base o3 HEY.out.drew.size) (own_base o4 HEY.out.drew.size) hown8 hgrow8)
        have HG8 := Lib.hid hG8
        have HE8 := Lib.hid e8
        clear hG8 e8 hown8 hgrow8 lies8 lt8 o3 o4 b3 d3 k0 k1 k3 k4 p0 p1 m0 m1 hHeld
        go_wp2_with fail
        go_roundg (gk - 1)
        case measure => have := HMS.out; omega
        case rel => exact ⟨k + 1, _, _, rfl, by have := HMS.out; omega, by have := HMS.out; omega, by go_num, HTN, HS8.out, HG8.out, HE8.out⟩
end Go.Proofs.Ytbbgbepemnmfdaa.fires
