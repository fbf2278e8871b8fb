/- The contract of the model's l6States. -/
import Derived.Handy
import Derived.Test.YtbjcfjgoedpgdaaStepS
import Derived.Test.YtbjcfjgoedpgdaaGrid
import Derived.Deep.DeepCutAuto
import Derived.Deep.AppendLies
import Derived.Deep.RegionHeld3
namespace Go.Proofs.Ytbjcfjgoedpgdaa.moms
open Go.RowKit Go.Maps P2 words edges ints good near adjs fns rets sets covs reach bags balls mids grid
set_option linter.unusedVariables false

def cells2 (us : List (Value × Value)) : List Value := us.flatMap fun u : Value × Value => [u.1, u.2]
theorem cells2_len (us : List (Value × Value)) : (cells2 us).length = us.length * 2 := by
  induction us with
  | nil => rfl
  | cons a l ih => simp only [cells2, List.flatMap_cons, List.length_append, List.length_cons, List.length_nil] at ih ⊢; omega
theorem cells2_app (us ws : List (Value × Value)) : cells2 (us ++ ws) = cells2 us ++ cells2 ws := by simp [cells2]
theorem cells2_at : ∀ {us : List (Value × Value)} {k : Nat} {e : Value × Value}, us[k]? = some e → (cells2 us)[k * 2]? = some e.1 ∧ (cells2 us)[k * 2 + 1]? = some e.2
  | [], _, _, h => by simp at h
  | a :: l, 0, e, h => by
    simp at h
    subst h
    exact ⟨rfl, rfl⟩
  | a :: l, k + 1, e, h => by
    have := cells2_at (us := l) (k := k) (e := e) (by simpa using h)
    simp only [cells2, List.flatMap_cons] at this ⊢
    rw [show (k + 1) * 2 = (k * 2) + 2 from by omega, show k * 2 + 2 + 1 = (k * 2 + 1) + 2 from by omega]
    exact this
/-- the states of a program after 0, 1, .. k steps, in rows of the call's own -/
def OwnS (w : World) (B n : Nat) (l : List Ed) (pl : List Int) (k : Nat) (v : Value) (us : List (Value × Value)) : Prop :=
  w.ownsRow B 69 2 v (k + 1) (cells2 us) ∧ us.length = k + 1 ∧ ∀ (j : Nat) (a b : Value), us[j]? = some (a, b) → OwnP w B n a b (momS pl j) (momU n l pl j)
section
variable {w w' : World} {B n : Nat} {l : List Ed} {pl : List Int} {k : Nat} {v : Value} {us : List (Value × Value)}
theorem OwnS.below (h : OwnS w B n l pl k v us) (hb : Below w.heap.size w w') : OwnS w' B n l pl k v us := ⟨own_below h.1 hb, h.2.1, fun j a b hj => (h.2.2 j a b hj).below hb⟩
theorem OwnS.base {C : Nat} (h : OwnS w B n l pl k v us) (hC : C ≤ B) : OwnS w C n l pl k v us := ⟨own_base h.1 hC, h.2.1, fun j a b hj => (h.2.2 j a b hj).base hC⟩
theorem tneIS : (3 : TypeId) ≠ 69 := by decide
theorem own_grown {w5 w6 : World} {B C : Nat} {x v : Value} {q : List Int} {m : Nat} {xs : List Value} {o : Obj} (ho : w5.ownsRow C 3 1 x q.length (cellsI q)) (hv : w5.ownsRow B 69 2 v m xs) (hg : (w5.alloc o).grownBy w6 v.ownBlock) : w6.ownsRow C 3 1 x q.length (cellsI q) :=
  (ho.alloc o).kept hg (by
    cases hh : x.ownBlock with
    | none => exact .inl rfl
    | some k => exact .inr (fun e => own_apart ho hv tneIS k hh e.symm))
theorem OwnS.push {w5 w6 : World} {v6 a b : Value} {o : Obj} (h : OwnS w B n l pl k v us) (hb : Below w.heap.size w w5) (hp : OwnP w5 B n a b (momS pl (k + 1)) (momU n l pl (k + 1)))
    (hown : w6.ownsRow B 69 2 v6 (k + 1 + 1) (cells2 us ++ [a, b])) (hg : (w5.alloc o).grownBy w6 v.ownBlock) : OwnS w6 B n l pl (k + 1) v6 (us ++ [(a, b)]) := by
  have h5 := h.below hb
  refine ⟨by rw [cells2_app]; exact hown, by rw [List.length_append, h.2.1]; rfl, fun j x y hj => ?_⟩
  by_cases hlt : j < us.length
  · rw [List.getElem?_append_left hlt] at hj
    have h9 := h5.2.2 j x y hj
    exact ⟨own_grown h9.1 h5.1 hg, own_grown h9.2 h5.1 hg⟩
  · have hj' : j = us.length := by
      have := (List.getElem?_eq_some_iff.1 hj).1
      simp at this; omega
    subst hj'
    rw [List.getElem?_append_right (Nat.le_refl _), Nat.sub_self] at hj
    simp at hj
    obtain ⟨rfl, rfl⟩ := hj
    rw [h.2.1]
    exact ⟨own_grown hp.1 h5.1 hg, own_grown hp.2 h5.1 hg⟩
theorem OwnS.at_ (h : OwnS w B n l pl k v us) {j : Nat} (hj : j ≤ k) : ∃ a b g c, us[j]? = some (a, b) ∧ v = .slice (some ⟨g, 0, none⟩) (k + 1) c ∧ w.cell? ⟨g, j * 2, none⟩ = some a ∧ w.cell? ⟨g, j * 2 + 1, none⟩ = some b ∧ OwnP w B n a b (momS pl j) (momU n l pl j) := by
  obtain ⟨⟨a, b⟩, hab⟩ : ∃ e, us[j]? = some e := ⟨_, List.getElem?_eq_getElem (by have := h.2.1; omega)⟩
  rcases h.1.2 with ⟨_, h0⟩ | ⟨g, cap, cur, rfl, hrest⟩
  · omega
  · have hc := fun i hi => h.1.cellAt i hi
    have hl := cells2_len us
    have h9 := h.2.1
    refine ⟨a, b, g, cap, hab, rfl, ?_, ?_, h.2.2 j a b hab⟩
    · rw [hc (j * 2) (by omega), (cells2_at hab).1]
    · rw [hc (j * 2 + 1) (by omega), (cells2_at hab).2]
end
theorem infoSt : (Try.prog.info? 69).map (fun i => (i.zero, i.size, i.bytes)) = some (some (.agg #[.slice none 0 0, .slice none 0 0]), 2, 48) := by kernel_rfl
theorem keep_al {w : World} {p : Addr} {v : Value} {o : Obj} (h : w.cell? p = some v) : (w.alloc o).cell? p = some v :=
  ((Below.refl w.heap.size w).alloc (Nat.le_refl _) o |>.cell (p := p) (World.block_lt_of_cell? w p h)).trans h
set_option maxHeartbeats 4000000 in
set_option maxRecDepth 100000 in
theorem l6States_any (n : Nat) (v u : Value) (l : List Ed) (pl : List Int) (w : World) (h : Edges w v l) (hl : l.length ≤ 1048576) (hu : Ints w u pl) (hpl : pl.length ≤ 40) (hn : n ≤ 8) (hpr : ProgP n pl) :
    Calls Try.prog 64 #[.agg #[.int .i64 (n : Int), v], u] w fun e w' => ∃ x us, e = .returned x ∧ OwnS w' w.heap.size n l pl pl.length x us ∧ Below w.heap.size w w' := by
  obtain ⟨i0, hi, hz0, hz1, hz2⟩ := info_parts infoSt
  obtain ⟨A, c, rfl, -⟩ := h.form
  obtain ⟨A2, c2, rfl, hc2⟩ := hu.form
  have H := Lib.hid h
  have HC2 := Lib.hid hc2
  have HPR := Lib.hid hpr
  have hb0 : Below w.heap.size w (w.alloc (.cells #[.int .i64 (n : Int), .slice A l.length c] 29)) := (Below.refl _ _).alloc (Nat.le_refl _) _
  have g0 := Blk.new w 29 #[.int .i64 (n : Int), .slice A l.length c]
  obtain ⟨p0, p1, -, -⟩ := g0.two
  clear h hu hc2 hpr
  go_enter Try.func64, Try.ntmps64
  go_wp2_with fail
  refine (l6Begin_any n (.slice A l.length c) _ hn).mono ?_
  rintro e w2 ⟨a0, b0, rfl, o2, b2⟩
  obtain ⟨Aa0, ca0, ea0⟩ := own_form o2.1
  obtain ⟨Ab0, cb0, eb0⟩ := own_form o2.2
  subst ea0
  subst eb0
  have hs0 := hb0.size
  have HE2 := Lib.hid (btrans hb0 b2)
  have hs2 := HE2.out.size
  have HG2 := Lib.hid ((g0.below b2 g0.lt).alloc (.cells #[.slice Aa0 (nw (fun _ => false) n).length ca0, .slice Ab0 (nw (fun _ => true) n).length cb0] 69))
  have HB2 : Hid (Below w.heap.size w (w2.alloc (.cells #[.slice Aa0 (nw (fun _ => false) n).length ca0, .slice Ab0 (nw (fun _ => true) n).length cb0] 69))) := HE2.out.alloc hs2 _
  have HO2 : Hid (OwnS (w2.alloc (.cells #[.slice Aa0 (nw (fun _ => false) n).length ca0, .slice Ab0 (nw (fun _ => true) n).length cb0] 69)) w.heap.size n l pl 0 (.slice (some ⟨w2.heap.size, 0, none⟩) 1 1) [(.slice Aa0 (nw (fun _ => false) n).length ca0, .slice Ab0 (nw (fun _ => true) n).length cb0)]) := by
    refine ⟨?_, rfl, fun j a b hj => ?_⟩
    · exact World.ownsRow_lit (base := w.heap.size) (e := 69) (size := 2) w2 #[.slice Aa0 (nw (fun _ => false) n).length ca0, .slice Ab0 (nw (fun _ => true) n).length cb0] 1 hs2 (by unfold maxLen; omega) rfl
    · have hj0 : j = 0 := by have := (List.getElem?_eq_some_iff.1 hj).1; simp at this; omega
      subst hj0
      simp at hj
      obtain ⟨rfl, rfl⟩ := hj
      have o2' := o2.base hs0
      exact ⟨o2'.1.alloc _, o2'.2.alloc _⟩
  clear b2 o2 p0 p1 g0 hb0
  go_wp2_with fail
  go_loopg [5, 6] pl.length (fun g ov iv wr => ∃ (k : Nat) (ow : Value) (us : List (Value × Value)), ow = ov ∧ k + g = pl.length ∧ iv = .int .i64 (k : Int) ∧ OwnS wr w.heap.size n l pl k ow us ∧ Blk wr w.heap.size 29 #[.int .i64 (n : Int), .slice A l.length c] ∧ Below w.heap.size w wr)
  case atStart => exact ⟨0, _, _, rfl, by omega, rfl, HO2.out, HG2.out, HB2.out⟩
  case round =>
    clear HO2 HG2 HB2
    obtain ⟨k, ow, us, rfl, hkg, rfl, hos, hgb, hB⟩ := hrel
    obtain ⟨A4, c4, rfl⟩ := own_form hos.1
    cases gk with
    | zero =>
      obtain rfl : k = pl.length := by omega
      have HO := Lib.hid hos
      have HB := Lib.hid hB
      clear hos hgb hB
      go_wp2_with fail
      go_ret
      exact ⟨_, _, rfl, HO.out, HB.out⟩
    | succ g2 =>
      have hlt : k < pl.length := by omega
      have hlt' : (k : Int) < (pl.length : Int) := by omega
      obtain ⟨st, hst⟩ : ∃ st, pl[k]? = some st := ⟨_, List.getElem?_eq_getElem hlt⟩
      obtain ⟨ga, oa, rfl, c0⟩ := HC2.out k _ hst
      have q0 := nearv.cell_keep c0 hB
      obtain ⟨p0, p1, -, -⟩ := hgb.two
      obtain ⟨a, b, gs, cs, hab, hv, m0, m1, hop⟩ := hos.at_ (Nat.le_refl k)
      obtain ⟨rfl, rfl⟩ : A4 = some ⟨gs, 0, none⟩ ∧ c4 = cs := by simpa using hv
      have ho := HPR.out k st hlt hst
      have HST := Lib.hid (fun (W : World) (hW : Below wr.heap.size wr W) => l6Step_any n w.heap.size (momS pl k) (momU n l pl k) (.slice A l.length c) a b l st W (H.out.below (btrans hB hW)) hl (hop.below hW) (Nat.le_trans hB.size hW.size) hn ho)
      rw [← momS_succ hst] at HST
      have HU9 : Hid (spr n l (momS pl (k + 1)) (momU n l pl k) = momU n l pl (k + 1)) := rfl
      rw [HU9.out] at HST
      have HSP := Lib.hid hos
      have HGB := Lib.hid hgb
      have HB := Lib.hid hB
      have HC0 := Lib.hid c0
      have hsz := hB.size
      have hul : us.length ≤ 41 := by have := hos.2.1; omega
      have hk41 : k + 1 ≤ 41 := by omega
      have hkk : (k : Int) < (k : Int) + 1 := by omega
      obtain ⟨Aa, ca, ea⟩ := own_form hop.1
      obtain ⟨Ab, cb, eb⟩ := own_form hop.2
      subst ea
      subst eb
      clear c0 hos hgb hB hst ho hop hv hab
      go_wp2_with fail
      refine wp_region_held_drew (S := (fun w' : World => w'.cell? ⟨w.heap.size, 0, none⟩ = some (.int .i64 (n : Int)) ∧ w'.cell? ⟨w.heap.size, 1, none⟩ = some (.slice A l.length c) ∧ w'.cell? ⟨ga, oa + k, none⟩ = some (.int .i64 st))) (by kernel_rfl) (by (try dsimp only); simp [*]) (fun hHeld => ?_)
      change wpAnyH _ _ _ _ _ _ #[false, false, false, false, false, false, false, false, false, false, false, false, false, false] _ _
      refine wpAnyH_take (i := 0) (oi := ⟨some 16, _, _, _, _, _⟩) (v := ?_) rfl (by kernel_rfl) (by kernel_rfl) (by kernel_rfl) (fun _ _ _ h => h) (Or.inl ⟨by rfl, ?_⟩) (by assumption) ?_
      rotate_left
      · (intro w hSw; (try dsimp only at hSw); go_simp; (try (with_reducible rfl)))
      try simp only [Act.put, List.setIfInBounds_toArray, List.set_cons_zero, List.set_cons_succ]
      refine wpAnyH_take (i := 1) (oi := ⟨some 17, _, _, _, _, _⟩) (v := ?_) rfl (by kernel_rfl) (by kernel_rfl) (by kernel_rfl) (fun _ _ _ h => h) (Or.inl ⟨by rfl, ?_⟩) (by assumption) ?_
      rotate_left
      · (intro w hSw; (try dsimp only at hSw); go_simp; (try (with_reducible rfl)))
      try simp only [Act.put, List.setIfInBounds_toArray, List.set_cons_zero, List.set_cons_succ]
      refine wpAnyH_take (i := 2) (oi := ⟨some 18, _, _, _, _, _⟩) (v := ?_) rfl (by kernel_rfl) (by kernel_rfl) (by kernel_rfl) (fun _ _ _ h => h) (Or.inl ⟨by rfl, ?_⟩) (by assumption) ?_
      rotate_left
      · (intro w hSw; (try dsimp only at hSw); go_simp; (try (with_reducible rfl)))
      try simp only [Act.put, List.setIfInBounds_toArray, List.set_cons_zero, List.set_cons_succ]
      refine wpAnyH_take (i := 3) (oi := ⟨some 19, _, _, _, _, _⟩) (v := ?_) rfl (by kernel_rfl) (by kernel_rfl) (by kernel_rfl) (fun _ _ _ h => h) (Or.inl ⟨by rfl, ?_⟩) (by assumption) ?_
      rotate_left
      · (intro w hSw; (try dsimp only at hSw); go_simp; (try (with_reducible rfl)))
      try simp only [Act.put, List.setIfInBounds_toArray, List.set_cons_zero, List.set_cons_succ]
      refine wpAnyH_take (i := 4) (oi := ⟨some 20, _, _, _, _, _⟩) (v := ?_) rfl (by kernel_rfl) (by kernel_rfl) (by kernel_rfl) (fun _ _ _ h => h) (Or.inl ⟨by rfl, ?_⟩) (by assumption) ?_
      rotate_left
      · (intro w hSw; (try dsimp only at hSw); go_simp; (try (with_reducible rfl)))
      try simp only [Act.put, List.setIfInBounds_toArray, List.set_cons_zero, List.set_cons_succ]
      refine wpAnyH_take (i := 6) (oi := ⟨some 22, _, _, _, _, _⟩) (v := ?_) rfl (by kernel_rfl) (by kernel_rfl) (by kernel_rfl) (fun _ _ _ h => h) (Or.inl ⟨by rfl, ?_⟩) (by assumption) ?_
      rotate_left
      · (intro w hSw; (try dsimp only at hSw); go_simp; (try (with_reducible rfl)))
      try simp only [Act.put, List.setIfInBounds_toArray, List.set_cons_zero, List.set_cons_succ]
      refine wpAnyH_take (i := 7) (oi := ⟨some 23, _, _, _, _, _⟩) (v := ?_) rfl (by kernel_rfl) (by kernel_rfl) (by kernel_rfl) (fun _ _ _ h => h) (Or.inl ⟨by rfl, ?_⟩) (by assumption) ?_
      rotate_left
      · (intro w hSw; (try dsimp only at hSw); go_simp; (try (with_reducible rfl)))
      try simp only [Act.put, List.setIfInBounds_toArray, List.set_cons_zero, List.set_cons_succ]
      refine wpAnyH_take (i := 8) (oi := ⟨some 24, _, _, _, _, _⟩) (v := ?_) rfl (by kernel_rfl) (by kernel_rfl) (by kernel_rfl) (fun _ _ _ h => h) (Or.inl ⟨by rfl, ?_⟩) (by assumption) ?_
      rotate_left
      · (intro w hSw; (try dsimp only at hSw); go_simp; (try (with_reducible rfl)))
      try simp only [Act.put, List.setIfInBounds_toArray, List.set_cons_zero, List.set_cons_succ]
      refine wpAnyH_take (i := 9) (oi := ⟨some 25, _, _, _, _, _⟩) (v := ?_) rfl (by kernel_rfl) (by kernel_rfl) (by kernel_rfl) (fun _ _ _ h => h) (Or.inl ⟨by rfl, ?_⟩) (by assumption) ?_
      rotate_left
      · (intro w hSw; (try dsimp only at hSw); go_simp; (try (with_reducible rfl)))
      try simp only [Act.put, List.setIfInBounds_toArray, List.set_cons_zero, List.set_cons_succ]
      refine wpAnyH_ready (rs := [5]) (by kernel_rfl) (by simp) ?_
      refine AllReadyH.cons rfl (fun K hK => ?_) AllReadyH.nil
      go_simp
      refine hK.out _ _ (hHeld) (fun hHeld => ?_)
      clear hK K
      try simp only [List.setIfInBounds_toArray, List.set_cons_zero, List.set_cons_succ]
      refine wpAnyH_ready (rs := [10]) (by kernel_rfl) (by simp) ?_
      refine AllReadyH.cons (o := ⟨some 26, _, _, _, _, _⟩) rfl (fun K hK => ?_) AllReadyH.nil
      go_simp
      refine (HST.out wr.drew (Below.refl _ _).drew).mono ?_; rintro e w3 ⟨a', b', rfl, o3, b3⟩; have d3 : Below wr.heap.size wr w3 := (Below.refl _ _).drew.trans b3; obtain ⟨Aa3, ca3, ea3⟩ := own_form o3.1; obtain ⟨Ab3, cb3, eb3⟩ := own_form o3.2; subst ea3; subst eb3; have HGB3 := Lib.hid (HGB.out.below d3 HGB.out.lt); obtain ⟨k0, k1, -, -⟩ := HGB3.out.two; have k2 := nearv.cell_keep HC0.out (btrans HB.out d3); have HSP3 := Lib.hid (HSP.out.below d3); have hs3 := d3.size
      go_wp2_with fail
      refine hK.out _ _ (by (try dsimp only); simp [*]) (fun hHeld => ?_)
      clear hK K
      try simp only [List.setIfInBounds_toArray, List.set_cons_zero, List.set_cons_succ]
      refine wpAnyH_ready (rs := [11]) (by kernel_rfl) (by simp) ?_
      refine AllReadyH.cons rfl (fun K hK => ?_) AllReadyH.nil
      go_simp
      refine hK.out _ _ (⟨keep_al k0, keep_al k1, keep_al k2⟩) (fun hHeld => ?_)
      clear hK K
      try simp only [List.setIfInBounds_toArray, List.set_cons_zero, List.set_cons_succ]
      refine wpAnyH_ready (rs := [12]) (by kernel_rfl) (by simp) ?_
      refine AllReadyH.cons rfl (fun K hK => ?_) AllReadyH.nil
      (refine step_append_lies _ rfl (.tmp 16) (.tmp 27) 66 rfl w.heap.size 69 i0 (.agg #[.slice none 0 0, .slice none 0 0]) 2 48 Try.underlying66 hi hz0 hz1 hz2 rfl (by decide) (.slice (some ⟨gs, 0, none⟩) (k + 1) c4) (k + 1) (cells2 us) rfl (HSP3.out.1.alloc _) ⟨w3.heap.size, 0, none⟩ 1 1 [(.slice Aa3 (nw (momS pl (k + 1)) n).length ca3), (.slice Ab3 (nw (momU n l pl (k + 1)) n).length cb3)] rfl rfl (cell_two_new _ _ _ _) (fun x hx => by simp at hx; rcases hx with rfl | rfl <;> rfl) (by decide) (by unfold maxLen; omega) (by omega) (by simp; omega) (w3.heap.size + 1) (by simp) ?_; intro g8 cap8 w8 hown8 hgrow8 lies8 lt8; have hG8 := (HGB3.out.alloc (.cells #[(.slice Aa3 (nw (momS pl (k + 1)) n).length ca3), (.slice Ab3 (nw (momU n l pl (k + 1)) n).length cb3)] 69)).grown hgrow8 (fun e => own_ne HSP3.out.1 HGB3.out (by decide) e.symm); obtain ⟨k3, k4, -, -⟩ := hG8.two; have e8 : Below w.heap.size w w8 := (((btrans HB.out d3).alloc (by omega) (.cells #[(.slice Aa3 (nw (momS pl (k + 1)) n).length ca3), (.slice Ab3 (nw (momU n l pl (k + 1)) n).length cb3)] 69)).grown hgrow8 (by simp; omega) (fun j e => (HSP3.out.1.lt j e).1)); have k5 := nearv.cell_keep HC0.out e8)
      refine hK.out _ _ (⟨k3, k4, k5⟩) (fun hHeld => ?_)
      clear hK K
      try simp only [Act.put, List.setIfInBounds_toArray, List.set_cons_zero, List.set_cons_succ]
      refine wpAnyH_take (i := 13) (oi := ⟨some 5, _, _, _, _, _⟩) (v := ?_) rfl (by kernel_rfl) (by kernel_rfl) (by kernel_rfl) (fun _ _ _ h => h) (Or.inl ⟨by rfl, ?_⟩) (by assumption) ?_
      rotate_left
      · (intro w hSw; (try dsimp only at hSw); go_simp; (try (with_reducible rfl)))
      try simp only [Act.put, List.setIfInBounds_toArray, List.set_cons_zero, List.set_cons_succ]
      refine wpAnyH_done (by kernel_rfl) ?_ _
      have HS8 := Lib.hid (OwnS.push HSP.out d3 o3 hown8 hgrow8)
      have HG8 := Lib.hid hG8
      have HE8 := Lib.hid e8
      clear hG8 e8 hown8 hgrow8 lies8 lt8 o3 b3 d3 k0 k1 k2 k3 k4 k5 p0 p1 q0 m0 m1 hHeld
      go_wp2_with fail
      go_roundg g2
      case measure => omega
      case rel => exact ⟨k + 1, _, _, rfl, by omega, by go_num, HS8.out, HG8.out, HE8.out⟩
end Go.Proofs.Ytbjcfjgoedpgdaa.moms
