/- Cliques: the contracts of the model's l5Clique and l5Among. -/
import Derived.Handy
import Derived.Test.YtbbgbepemnmfdaaPerfM
import Derived.Test.YtbbgbepemnmfdaaLater
import Derived.Test.YtbbgbepemnmfdaaNeighS
import Derived.Test.YtbbgbepemnmfdaaBall
import Derived.Maps.AppendAt
import Derived.Deep.DeepCutAuto
import Derived.Deep.RegionHeld3
import Derived.Test.YtbbgbepemnmfdaaC01
import Derived.Test.YtbbgbepemnmfdaaGoodS
import Derived.Deep.QuietTactic
import Derived.Test.YtbbgbepemnmfdaaOwn
import Derived.Test.YtbbgbepemnmfdaaOpen
import Derived.Test.YtbbgbepemnmfdaaRows
import Derived.ProofKit
import Derived.OpenShut
import Derived.ChangeOld
import Derived.Carry
namespace Go.Proofs.Ytbbgbepemnmfdaa.costs
open Go.RowKit P2 words edges ints good adjs fns sets rets covs reach bags balls bitsI fronts
set_option linter.unusedVariables false

theorem nwf (p : Nat → Bool) (q : Int → Bool) (n : Nat) : (nw p n).filter q = nw (fun z => p z && q (z : Int)) n := by
  unfold nw
  rw [List.filter_map, List.filter_filter]
  congr 1
  exact List.filter_congr fun z _ => by simp [Bool.and_comm]
/-- any two numbers of a list are neighbors -/
def ClqL (l : List Ed) (xs : List Int) : Prop := ∀ (a b : Nat) (x y : Int), a < b → xs[a]? = some x → xs[b]? = some y → adj l x y = true
def ClqA (l : List Ed) (xs : List Int) (i : Nat) : Prop := ∀ (a b : Nat) (x y : Int), a < i → a < b → xs[a]? = some x → xs[b]? = some y → adj l x y = true
def ClqB (l : List Ed) (xs : List Int) (i k : Nat) : Prop := ClqA l xs i ∧ ∀ (b : Nat) (x y : Int), i < b → b < k → xs[i]? = some x → xs[b]? = some y → adj l x y = true
theorem ClqA.inner {l : List Ed} {xs : List Int} {i : Nat} (h : ClqA l xs i) : ClqB l xs i (i + 1) := ⟨h, fun b x y h1 h2 => by omega⟩
theorem ClqB.next {l : List Ed} {xs : List Int} {i k : Nat} {x y : Int} (h : ClqB l xs i k) (hx : xs[i]? = some x) (hy : xs[k]? = some y) (ha : adj l x y = true) : ClqB l xs i (k + 1) :=
  ⟨h.1, fun b x' y' h1 h2 h3 h4 => by
    by_cases e : b = k
    · subst e; rw [hx] at h3; rw [hy] at h4; cases h3; cases h4; exact ha
    · exact h.2 b x' y' h1 (by omega) h3 h4⟩
theorem ClqB.all {l : List Ed} {xs : List Int} {i k : Nat} (h : ClqB l xs i k) (hk : xs.length ≤ k) : ClqA l xs (i + 1) := fun a b x y h1 h2 h3 h4 => by
  have hb := (List.getElem?_eq_some_iff.1 h4).1
  by_cases e : a = i
  · subst e; exact h.2 b x y h2 (by omega) h3 h4
  · exact h.1 a b x y (by omega) h2 h3 h4
theorem ClqA.done {l : List Ed} {xs : List Int} {i : Nat} (h : ClqA l xs i) (hi : xs.length ≤ i) : ClqL l xs := fun a b x y h1 h2 h3 => by
  have ha := (List.getElem?_eq_some_iff.1 h2).1
  exact h a b x y (by omega) h1 h2 h3
theorem clq_nw {n : Nat} {l : List Ed} {P : Nat → Bool} : okG (ClqL l (nw P n)) = cliqueB n l P := by
  rw [Bool.eq_iff_iff, okG_iff, cliqueB_iff]
  constructor
  · intro h a b ha hb hpa hpb hne
    obtain ⟨i, hi⟩ := List.getElem?_of_mem (mem_nw.2 ⟨a, ha, hpa, rfl⟩)
    obtain ⟨j, hj⟩ := List.getElem?_of_mem (mem_nw.2 ⟨b, hb, hpb, rfl⟩)
    rcases Nat.lt_trichotomy i j with hh | hh | hh
    · exact h i j _ _ hh hi hj
    · subst hh
      rw [hi] at hj
      cases hj
      exact absurd rfl hne
    · rw [adj_comm]; exact h j i _ _ hh hj hi
  · intro h a b x y hab hx hy
    obtain ⟨i, rfl, hi, hpi⟩ := nw_at hx
    obtain ⟨j, rfl, hj, hpj⟩ := nw_at hy
    refine h i j hi hj hpi hpj fun e => ?_
    subst e
    have hasc := List.pairwise_iff_getElem.1 (nw_asc P n)
    obtain ⟨h1, e1⟩ := List.getElem?_eq_some_iff.1 hx
    obtain ⟨h2, e2⟩ := List.getElem?_eq_some_iff.1 hy
    have := hasc a b h1 h2 hab
    omega
set_option maxHeartbeats 4000000 in
set_option maxRecDepth 100000 in
theorem l5Clique_any (s : Int) (v u : Value) (l : List Ed) (xs : List Int) (w : World) (h : Edges w v l) (hl : l.length ≤ 1048576) (hu : Ints w u xs) (hxl : xs.length ≤ 1048576) :
    Calls Try.prog 48 #[.agg #[.int .i64 s, v], u] w fun e w' => e = .returned (.bool (okG (ClqL l xs))) ∧ Below w.heap.size w w' := by
  obtain ⟨A, c, rfl, -⟩ := h.form
  obtain ⟨A2, c2, rfl, hc2⟩ := hu.form
  have H := Lib.hid h
  have HC2 := Lib.hid hc2
  have HB0 : Hid (Below w.heap.size w (w.alloc (.cells #[.int .i64 s, .slice A l.length c] 29))) := (Below.refl _ _).alloc (Nat.le_refl _) _
  have HG0 := Lib.hid (Blk.new w 29 #[.int .i64 s, .slice A l.length c])
  clear h hu hc2
  go_enter Try.func48, Try.ntmps48
  go_wp2_with fail
  go_loopg [5] xs.length (fun g iv wr => ∃ i : Nat, i + g = xs.length ∧ iv = .int .i64 (i : Int) ∧ Hid (ClqA l xs i) ∧ Blk wr w.heap.size 29 #[.int .i64 s, .slice A l.length c] ∧ Below w.heap.size w wr)
  case atStart => exact ⟨0, by omega, rfl, fun a b x y h => by omega, HG0.out, HB0.out⟩
  case round =>
    clear HG0 HB0
    obtain ⟨i, hig, rfl, hcl, hgb, hB⟩ := hrel
    have HG := Lib.hid hgb
    have HB := Lib.hid hB
    cases gk with
    | zero =>
      have HV : Hid (okG (ClqL l xs) = true) := okG_yes (hcl.out.done (by omega))
      obtain rfl : i = xs.length := by omega
      clear hgb hB
      go_wp2_with fail
      go_ret
      rw [HV.out]
      exact ⟨rfl, HB.out⟩
    | succ g2 =>
      have hlt : i < xs.length := by omega
      have hlt' : (i : Int) < (xs.length : Int) := by omega
      obtain ⟨x, hx⟩ : ∃ x, xs[i]? = some x := ⟨_, List.getElem?_eq_getElem hlt⟩
      obtain ⟨g5, o5, rfl, c5⟩ := HC2.out i _ hx
      have HX := Lib.hid hx
      have HI := Lib.hid hcl.out.inner
      have HC5 := Lib.hid c5
      clear hx c5 hgb hB hcl
      go_wp2_with fail
      obtain ⟨wo, hwo⟩ : ∃ wo, wo = wr := ⟨_, rfl⟩
      subst hwo
      go_loopg [6] (xs.length - (i + 1)) (fun g kv wr => ∃ k : Nat, k + g = xs.length ∧ i < k ∧ kv = .int .i64 (k : Int) ∧ Hid (ClqB l xs i k) ∧ Blk wr w.heap.size 29 #[.int .i64 s, .slice A l.length c] ∧ Below w.heap.size w wr)
      case atStart => exact ⟨i + 1, by omega, by omega, by go_num, HI, HG.out, HB.out⟩
      case round =>
        clear HI HG HB
        obtain ⟨k, hkg, hik, rfl, hcl, hgb, hB⟩ := hrel
        obtain ⟨p0, p1, -, -⟩ := hgb.two
        have HG := Lib.hid hgb
        have HB := Lib.hid hB
        cases gk with
        | zero =>
          have HN := Lib.hid (hcl.out.all (by omega))
          obtain rfl : k = xs.length := by omega
          clear hgb hB hcl p0 p1
          obtain ⟨p0, p1, -, -⟩ := HG.out.two
          go_wp2_with fail
          go_roundg g2
          case measure => omega
          case rel => exact ⟨i + 1, by omega, by go_num, HN, HG.out, HB.out⟩
        | succ g4 =>
          have hklt : k < xs.length := by omega
          have hklt' : (k : Int) < (xs.length : Int) := by omega
          obtain ⟨y, hy⟩ : ∃ y, xs[k]? = some y := ⟨_, List.getElem?_eq_getElem hklt⟩
          obtain ⟨_, _, hf, c6⟩ := HC2.out k _ hy
          cases hf
          have q5 := nearv.cell_keep HC5.out hB
          have q6 := nearv.cell_keep c6 hB
          have HNR := Lib.hid (l2Near_any s x y (.slice A l.length c) l wr.drew (H.out.below hB.drew) hl)
          have HIJ : Hid (i < k) := by
            show _ < _
            omega
          cases hj : adj l x y with
          | true =>
            have HN := Lib.hid (hcl.out.next HX.out hy hj)
            rw [hj] at HNR
            clear hy c6 hgb hB hcl hj HIJ
            go_wp2_with fail
            refine wp_region_held_drew (S := (fun w' : World => w'.cell? ⟨w.heap.size, 0, none⟩ = some (.int .i64 s) ∧ w'.cell? ⟨w.heap.size, 1, none⟩ = some (.slice A l.length c) ∧ w'.cell? ⟨g5, o5 + i, none⟩ = some (.int .i64 x) ∧ w'.cell? ⟨g5, o5 + k, none⟩ = some (.int .i64 y))) (by kernel_rfl) (by (try dsimp only); simp [*]) (fun hHeld => ?_)
            change wpAnyH _ _ _ _ _ _ #[false, false, false, false, false, false, false, false, false, false, false] _ _
            refine wpAnyH_take (i := 0) (oi := ⟨some 21, _, _, _, _, _⟩) (v := ?_) rfl (by kernel_rfl) (by kernel_rfl) (by kernel_rfl) (fun _ _ _ h => h) (Or.inl ⟨by rfl, ?_⟩) (by assumption) ?_
            rotate_left
            · (intro w hSw; (try dsimp only at hSw); go_simp; (try (with_reducible rfl)))
            try simp only [Act.put, List.setIfInBounds_toArray, List.set_cons_zero, List.set_cons_succ]
            refine wpAnyH_take (i := 1) (oi := ⟨some 22, _, _, _, _, _⟩) (v := ?_) rfl (by kernel_rfl) (by kernel_rfl) (by kernel_rfl) (fun _ _ _ h => h) (Or.inl ⟨by rfl, ?_⟩) (by assumption) ?_
            rotate_left
            · (intro w hSw; (try dsimp only at hSw); go_simp; (try (with_reducible rfl)))
            try simp only [Act.put, List.setIfInBounds_toArray, List.set_cons_zero, List.set_cons_succ]
            refine wpAnyH_take (i := 2) (oi := ⟨some 23, _, _, _, _, _⟩) (v := ?_) rfl (by kernel_rfl) (by kernel_rfl) (by kernel_rfl) (fun _ _ _ h => h) (Or.inl ⟨by rfl, ?_⟩) (by assumption) ?_
            rotate_left
            · (intro w hSw; (try dsimp only at hSw); go_simp; (try (with_reducible rfl)))
            try simp only [Act.put, List.setIfInBounds_toArray, List.set_cons_zero, List.set_cons_succ]
            refine wpAnyH_take (i := 3) (oi := ⟨some 24, _, _, _, _, _⟩) (v := ?_) rfl (by kernel_rfl) (by kernel_rfl) (by kernel_rfl) (fun _ _ _ h => h) (Or.inl ⟨by rfl, ?_⟩) (by assumption) ?_
            rotate_left
            · (intro w hSw; (try dsimp only at hSw); go_simp; (try (with_reducible rfl)))
            try simp only [Act.put, List.setIfInBounds_toArray, List.set_cons_zero, List.set_cons_succ]
            refine wpAnyH_take (i := 4) (oi := ⟨some 25, _, _, _, _, _⟩) (v := ?_) rfl (by kernel_rfl) (by kernel_rfl) (by kernel_rfl) (fun _ _ _ h => h) (Or.inl ⟨by rfl, ?_⟩) (by assumption) ?_
            rotate_left
            · (intro w hSw; (try dsimp only at hSw); go_simp; (try (with_reducible rfl)))
            try simp only [Act.put, List.setIfInBounds_toArray, List.set_cons_zero, List.set_cons_succ]
            refine wpAnyH_take (i := 5) (oi := ⟨some 26, _, _, _, _, _⟩) (v := ?_) rfl (by kernel_rfl) (by kernel_rfl) (by kernel_rfl) (fun _ _ _ h => h) (Or.inl ⟨by rfl, ?_⟩) (by assumption) ?_
            rotate_left
            · (intro w hSw; (try dsimp only at hSw); go_simp; (try (with_reducible rfl)))
            try simp only [Act.put, List.setIfInBounds_toArray, List.set_cons_zero, List.set_cons_succ]
            refine wpAnyH_take (i := 6) (oi := ⟨some 27, _, _, _, _, _⟩) (v := ?_) rfl (by kernel_rfl) (by kernel_rfl) (by kernel_rfl) (fun _ _ _ h => h) (Or.inl ⟨by rfl, ?_⟩) (by assumption) ?_
            rotate_left
            · (intro w hSw; (try dsimp only at hSw); go_simp; (try (with_reducible rfl)))
            try simp only [Act.put, List.setIfInBounds_toArray, List.set_cons_zero, List.set_cons_succ]
            refine wpAnyH_take (i := 7) (oi := ⟨some 28, _, _, _, _, _⟩) (v := ?_) rfl (by kernel_rfl) (by kernel_rfl) (by kernel_rfl) (fun _ _ _ h => h) (Or.inl ⟨by rfl, ?_⟩) (by assumption) ?_
            rotate_left
            · (intro w hSw; (try dsimp only at hSw); go_simp; (try (with_reducible rfl)))
            try simp only [Act.put, List.setIfInBounds_toArray, List.set_cons_zero, List.set_cons_succ]
            refine wpAnyH_take (i := 8) (oi := ⟨some 29, _, _, _, _, _⟩) (v := ?_) rfl (by kernel_rfl) (by kernel_rfl) (by kernel_rfl) (fun _ _ _ h => h) (Or.inl ⟨by rfl, ?_⟩) (by assumption) ?_
            rotate_left
            · (intro w hSw; (try dsimp only at hSw); go_simp; (try (with_reducible rfl)))
            try simp only [Act.put, List.setIfInBounds_toArray, List.set_cons_zero, List.set_cons_succ]
            refine wpAnyH_ready (rs := [9]) (by kernel_rfl) (by simp) ?_
            refine AllReadyH.cons (o := ⟨some 30, _, _, _, _, _⟩) rfl (fun K hK => ?_) AllReadyH.nil
            go_simp
            refine HNR.out.mono ?_; rintro e w3 ⟨rfl, b3⟩; have d3 : Below wr.heap.size wr w3 := btrans (Below.refl _ _).drew b3; obtain ⟨k0, k1, -, -⟩ := (HG.out.below d3 HG.out.lt).two; have q7 := nearv.cell_keep q5 d3; have q8 := nearv.cell_keep q6 d3
            go_wp2_with fail
            refine hK.out _ _ (by (try dsimp only); simp [*]) (fun hHeld => ?_)
            clear hK K
            try simp only [List.setIfInBounds_toArray, List.set_cons_zero, List.set_cons_succ]
            refine wpAnyH_take (i := 10) (oi := ⟨some 31, _, _, _, _, _⟩) (v := ?_) rfl (by kernel_rfl) (by kernel_rfl) (by kernel_rfl) (fun _ _ _ h => h) (Or.inl ⟨by rfl, ?_⟩) (by assumption) ?_
            rotate_left
            · (intro w hSw; (try dsimp only at hSw); go_simp; (try (with_reducible rfl)))
            try simp only [Act.put, List.setIfInBounds_toArray, List.set_cons_zero, List.set_cons_succ]
            refine wpAnyH_done (by kernel_rfl) ?_ _
            have HG3 := Lib.hid (HG.out.below d3 HG.out.lt)
            have HB3 := Lib.hid (btrans HB.out d3)
            clear b3 d3 k0 k1 q7 q8 q5 q6 p0 p1 hHeld
            go_wp2_with fail
            go_roundg g4
            case measure => omega
            case rel => exact ⟨k + 1, by omega, by omega, by go_num, HN, HG3.out, HB3.out⟩
          | false =>
            have HV : Hid (okG (ClqL l xs) = false) := okG_no fun h_ => by
              have := h_ i k x y HIJ.out HX.out hy
              rw [hj] at this; cases this
            rw [hj] at HNR
            clear hy c6 hgb hB hcl hj HIJ
            go_wp2_with fail
            refine wp_region_held_drew (S := (fun w' : World => w'.cell? ⟨w.heap.size, 0, none⟩ = some (.int .i64 s) ∧ w'.cell? ⟨w.heap.size, 1, none⟩ = some (.slice A l.length c) ∧ w'.cell? ⟨g5, o5 + i, none⟩ = some (.int .i64 x) ∧ w'.cell? ⟨g5, o5 + k, none⟩ = some (.int .i64 y))) (by kernel_rfl) (by (try dsimp only); simp [*]) (fun hHeld => ?_)
            change wpAnyH _ _ _ _ _ _ #[false, false, false, false, false, false, false, false, false, false, false] _ _
            refine wpAnyH_take (i := 0) (oi := ⟨some 21, _, _, _, _, _⟩) (v := ?_) rfl (by kernel_rfl) (by kernel_rfl) (by kernel_rfl) (fun _ _ _ h => h) (Or.inl ⟨by rfl, ?_⟩) (by assumption) ?_
            rotate_left
            · (intro w hSw; (try dsimp only at hSw); go_simp; (try (with_reducible rfl)))
            try simp only [Act.put, List.setIfInBounds_toArray, List.set_cons_zero, List.set_cons_succ]
            refine wpAnyH_take (i := 1) (oi := ⟨some 22, _, _, _, _, _⟩) (v := ?_) rfl (by kernel_rfl) (by kernel_rfl) (by kernel_rfl) (fun _ _ _ h => h) (Or.inl ⟨by rfl, ?_⟩) (by assumption) ?_
            rotate_left
            · (intro w hSw; (try dsimp only at hSw); go_simp; (try (with_reducible rfl)))
            try simp only [Act.put, List.setIfInBounds_toArray, List.set_cons_zero, List.set_cons_succ]
            refine wpAnyH_take (i := 2) (oi := ⟨some 23, _, _, _, _, _⟩) (v := ?_) rfl (by kernel_rfl) (by kernel_rfl) (by kernel_rfl) (fun _ _ _ h => h) (Or.inl ⟨by rfl, ?_⟩) (by assumption) ?_
            rotate_left
            · (intro w hSw; (try dsimp only at hSw); go_simp; (try (with_reducible rfl)))
            try simp only [Act.put, List.setIfInBounds_toArray, List.set_cons_zero, List.set_cons_succ]
            refine wpAnyH_take (i := 3) (oi := ⟨some 24, _, _, _, _, _⟩) (v := ?_) rfl (by kernel_rfl) (by kernel_rfl) (by kernel_rfl) (fun _ _ _ h => h) (Or.inl ⟨by rfl, ?_⟩) (by assumption) ?_
            rotate_left
            · (intro w hSw; (try dsimp only at hSw); go_simp; (try (with_reducible rfl)))
            try simp only [Act.put, List.setIfInBounds_toArray, List.set_cons_zero, List.set_cons_succ]
            refine wpAnyH_take (i := 4) (oi := ⟨some 25, _, _, _, _, _⟩) (v := ?_) rfl (by kernel_rfl) (by kernel_rfl) (by kernel_rfl) (fun _ _ _ h => h) (Or.inl ⟨by rfl, ?_⟩) (by assumption) ?_
            rotate_left
            · (intro w hSw; (try dsimp only at hSw); go_simp; (try (with_reducible rfl)))
            try simp only [Act.put, List.setIfInBounds_toArray, List.set_cons_zero, List.set_cons_succ]
            refine wpAnyH_take (i := 5) (oi := ⟨some 26, _, _, _, _, _⟩) (v := ?_) rfl (by kernel_rfl) (by kernel_rfl) (by kernel_rfl) (fun _ _ _ h => h) (Or.inl ⟨by rfl, ?_⟩) (by assumption) ?_
            rotate_left
            · (intro w hSw; (try dsimp only at hSw); go_simp; (try (with_reducible rfl)))
            try simp only [Act.put, List.setIfInBounds_toArray, List.set_cons_zero, List.set_cons_succ]
            refine wpAnyH_take (i := 6) (oi := ⟨some 27, _, _, _, _, _⟩) (v := ?_) rfl (by kernel_rfl) (by kernel_rfl) (by kernel_rfl) (fun _ _ _ h => h) (Or.inl ⟨by rfl, ?_⟩) (by assumption) ?_
            rotate_left
            · (intro w hSw; (try dsimp only at hSw); go_simp; (try (with_reducible rfl)))
            try simp only [Act.put, List.setIfInBounds_toArray, List.set_cons_zero, List.set_cons_succ]
            refine wpAnyH_take (i := 7) (oi := ⟨some 28, _, _, _, _, _⟩) (v := ?_) rfl (by kernel_rfl) (by kernel_rfl) (by kernel_rfl) (fun _ _ _ h => h) (Or.inl ⟨by rfl, ?_⟩) (by assumption) ?_
            rotate_left
            · (intro w hSw; (try dsimp only at hSw); go_simp; (try (with_reducible rfl)))
            try simp only [Act.put, List.setIfInBounds_toArray, List.set_cons_zero, List.set_cons_succ]
            refine wpAnyH_take (i := 8) (oi := ⟨some 29, _, _, _, _, _⟩) (v := ?_) rfl (by kernel_rfl) (by kernel_rfl) (by kernel_rfl) (fun _ _ _ h => h) (Or.inl ⟨by rfl, ?_⟩) (by assumption) ?_
            rotate_left
            · (intro w hSw; (try dsimp only at hSw); go_simp; (try (with_reducible rfl)))
            try simp only [Act.put, List.setIfInBounds_toArray, List.set_cons_zero, List.set_cons_succ]
            refine wpAnyH_ready (rs := [9]) (by kernel_rfl) (by simp) ?_
            refine AllReadyH.cons (o := ⟨some 30, _, _, _, _, _⟩) rfl (fun K hK => ?_) AllReadyH.nil
            go_simp
            refine HNR.out.mono ?_; rintro e w3 ⟨rfl, b3⟩; have d3 : Below wr.heap.size wr w3 := btrans (Below.refl _ _).drew b3; obtain ⟨k0, k1, -, -⟩ := (HG.out.below d3 HG.out.lt).two; have q7 := nearv.cell_keep q5 d3; have q8 := nearv.cell_keep q6 d3
            go_wp2_with fail
            refine hK.out _ _ (by (try dsimp only); simp [*]) (fun hHeld => ?_)
            clear hK K
            try simp only [List.setIfInBounds_toArray, List.set_cons_zero, List.set_cons_succ]
            refine wpAnyH_take (i := 10) (oi := ⟨some 31, _, _, _, _, _⟩) (v := ?_) rfl (by kernel_rfl) (by kernel_rfl) (by kernel_rfl) (fun _ _ _ h => h) (Or.inl ⟨by rfl, ?_⟩) (by assumption) ?_
            rotate_left
            · (intro w hSw; (try dsimp only at hSw); go_simp; (try (with_reducible rfl)))
            try simp only [Act.put, List.setIfInBounds_toArray, List.set_cons_zero, List.set_cons_succ]
            refine wpAnyH_done (by kernel_rfl) ?_ _
            have HB3 := Lib.hid (btrans HB.out d3)
            clear b3 d3 k0 k1 q7 q8 q5 q6 p0 p1 hHeld
            go_wp2_with fail
            go_ret
            rw [HV.out]
            exact ⟨rfl, HB3.out⟩
/-- the neighbors of a node that are not gone -/
def amgL (n : Nat) (l : List Ed) (gl : List Int) (x : Int) : List Int := nw (fun y => !goneB gl y && adj l x (y : Int)) n
def amgK (n : Nat) (l : List Ed) (gl : List Int) (x : Int) (k : Nat) : List Int := ((nw (fun y => adj l x (y : Int)) n).take k).filter fun y => !decide (y ∈ gl)
theorem amgK_len (n : Nat) (l : List Ed) (gl : List Int) (x : Int) (k : Nat) : (amgK n l gl x k).length ≤ n := by
  unfold amgK
  have h1 := List.length_filter_le (fun y => !decide (y ∈ gl)) ((nw (fun y => adj l x (y : Int)) n).take k)
  have h2 : ((nw (fun y => adj l x (y : Int)) n).take k).length ≤ (nw (fun y => adj l x (y : Int)) n).length := by rw [List.length_take]; omega
  have h3 := nw_len (fun y => adj l x (y : Int)) n
  omega
theorem amgK_yes {n : Nat} {l : List Ed} {gl : List Int} {x y : Int} {k : Nat} (hy : (nw (fun y => adj l x (y : Int)) n)[k]? = some y) (hg : decide (y ∈ gl) = false) : amgK n l gl x (k + 1) = amgK n l gl x k ++ [y] := by
  unfold amgK
  rw [List.take_add_one, hy, List.filter_append]
  simp only [Option.toList, List.filter_cons, List.filter_nil, hg]
  rfl
theorem amgK_no {n : Nat} {l : List Ed} {gl : List Int} {x y : Int} {k : Nat} (hy : (nw (fun y => adj l x (y : Int)) n)[k]? = some y) (hg : decide (y ∈ gl) = true) : amgK n l gl x (k + 1) = amgK n l gl x k := by
  unfold amgK
  rw [List.take_add_one, hy, List.filter_append]
  simp only [Option.toList, List.filter_cons, List.filter_nil, hg]
  simp
theorem amgK_all {n : Nat} {l : List Ed} {gl : List Int} {x : Int} : amgK n l gl x (nw (fun y => adj l x (y : Int)) n).length = amgL n l gl x := by
  unfold amgK amgL
  rw [List.take_length, nwf]
  exact reach.nw_congr fun z _ => Bool.and_comm _ _
set_option maxHeartbeats 4000000 in
set_option maxRecDepth 100000 in
theorem l5Among_any (n : Nat) (x : Int) (v u : Value) (l : List Ed) (gl : List Int) (w : World) (h : Edges w v l) (hl : l.length ≤ 1048576) (hu : Ints w u gl) (hgl : gl.length ≤ 1048576) (hn : n ≤ 8) :
    Calls Try.prog 60 #[.agg #[.int .i64 (n : Int), v], u, .int .i64 x] w (RowI w (amgL n l gl x)) := by
  obtain ⟨i0, hi, hz0, hz1, hz2⟩ := info_parts infoInt
  obtain ⟨A, c, rfl, -⟩ := h.form
  have HU := Lib.hid hu
  have b0 : Below w.heap.size w ((w.alloc (.cells #[.int .i64 (n : Int), .slice A l.length c] 29)).alloc (.cells #[] 3)) := ((Below.refl _ _).alloc (Nat.le_refl _) _).alloc (by simp) _
  have HB0 := Lib.hid b0
  have g0 := (Blk.new w 29 #[.int .i64 (n : Int), .slice A l.length c]).alloc (.cells #[] 3)
  obtain ⟨p0, p1, -, -⟩ := g0.two
  have o0 := own_new0 (w.alloc (.cells #[.int .i64 (n : Int), .slice A l.length c] 29)) 3 1
  rw [World.size_alloc] at o0
  have HO0 := Lib.hid o0
  have HNB := Lib.hid (neigh.l2Neighbors_any n x (.slice A l.length c) l _ (h.below b0) hl hn)
  have HAL := Lib.hid (amgK_all (n := n) (l := l) (gl := gl) (x := x))
  clear h hu b0 g0 o0
  go_enter Try.func60, Try.ntmps60
  go_wp2_with fail
  refine HNB.out.mono ?_
  rintro e w3 ⟨A5, c5, rfl, o5, b5⟩
  have HB3 := Lib.hid (btrans HB0.out b5)
  have HO3 : Hid (w3.ownsRow w.heap.size 3 1 (.slice (some ⟨w.heap.size + 1, 0, none⟩) 0 0) (amgK n l gl x 0).length (cellsI (amgK n l gl x 0))) := own_base (own_below HO0.out b5) (by omega)
  have HR3 := Lib.hid (own_base (B' := w.heap.size) o5 HB0.out.size)
  have HAP : Hid (∀ k, (Value.slice (some ⟨w.heap.size + 1, 0, none⟩) 0 0).ownBlock = some k → (Value.slice A5 (nw (fun y => adj l x (y : Int)) n).length c5).ownBlock ≠ some k) := fun q hq hq' => by
    have h1 := (HO0.out.lt q hq).2
    have h2 := (o5.lt q hq').1
    omega
  have HAT := Lib.hid (fun (k : Nat) (y : Int) (hk : (nw (fun y => adj l x (y : Int)) n)[k]? = some y) => amgK_yes (gl := gl) hk)
  have HAN := Lib.hid (fun (k : Nat) (y : Int) (hk : (nw (fun y => adj l x (y : Int)) n)[k]? = some y) => amgK_no (gl := gl) hk)
  have HNL := nw_len (fun y => adj l x (y : Int)) n
  clear o5 b5 p0 p1 HB0 HO0 HNB
  generalize nw (fun y => adj l x (y : Int)) n = N1 at *
  go_wp2_with fail
  go_loopg [7, 9] N1.length (fun g ov iv wr => ∃ (k : Nat) (ow : Value), ow = ov ∧ k + g = N1.length ∧ iv = .int .i64 (k : Int) ∧ wr.ownsRow w.heap.size 3 1 ow (amgK n l gl x k).length (cellsI (amgK n l gl x k)) ∧ wr.ownsRow w.heap.size 3 1 (.slice A5 N1.length c5) N1.length (cellsI N1) ∧ Hid (∀ k, ow.ownBlock = some k → (Value.slice A5 N1.length c5).ownBlock ≠ some k) ∧ Below w.heap.size w wr)
  case atStart => exact ⟨0, _, rfl, by omega, rfl, HO3.out, HR3.out, HAP, HB3.out⟩
  case round =>
    clear HO3 HR3 HAP HB3
    obtain ⟨k, ow, rfl, hkg, rfl, hrow, hr5, hap, hB⟩ := hrel
    obtain ⟨A4, c4, rfl⟩ := own_form hrow
    have hml := amgK_len n l gl x k
    have hsz := hB.size
    cases gk with
    | zero =>
      obtain rfl : k = N1.length := by omega
      rw [HAL.out] at hrow
      have HR := Lib.hid hrow
      have HB := Lib.hid hB
      have HEQ := Lib.hid HAL.out
      clear hrow hB hr5 hap
      go_wp2_with fail
      go_ret
      rw [HEQ.out]
      exact ⟨A4, c4, rfl, HR.out, HB.out⟩
    | succ g2 =>
      have hlt : k < N1.length := by omega
      have hlt' : (k : Int) < (N1.length : Int) := by omega
      obtain ⟨y, hy⟩ : ∃ y, N1[k]? = some y := ⟨_, List.getElem?_eq_getElem hlt⟩
      obtain ⟨_, _, hf, hcc⟩ := (show Ints wr (.slice A5 N1.length c5) N1 from Reads.of_own hr5).form
      cases hf
      obtain ⟨g9, o9, rfl, q9⟩ := hcc k _ hy
      have HH := Lib.hid (l1Has_any u gl y wr (HU.out.below hB) hgl)
      have HB := Lib.hid hB
      have HR5 := Lib.hid hr5
      cases hd : decide (y ∈ gl) with
      | true =>
        have HN := Lib.hid (HAN.out k y hy hd)
        rw [hd] at HH
        have HR := Lib.hid hrow
        clear hd hy hcc hB hrow hr5
        go_wp2_with fail
        refine HH.out.mono ?_
        rintro e w' ⟨rfl, rfl⟩
        go_wp2_with fail
        go_roundg g2
        case measure => omega
        case rel => exact ⟨k + 1, _, rfl, by omega, by go_num, by rw [HN.out]; exact HR.out, HR5.out, hap, HB.out⟩
      | false =>
        have HN := Lib.hid (HAT.out k y hy hd)
        rw [hd] at HH
        clear hd hy hcc hB hr5
        generalize amgK n l gl x k = m at *
        go_wp2_with fail
        refine HH.out.mono ?_
        rintro e w' ⟨rfl, rfl⟩
        go_wp2_with (at_builtin; refine wpList_append_own_at _ rfl _ _ 26 rfl (w.heap.size) 3 i0 (.int .i64 0) 1 8 Try.underlying26 hi hz0 hz1 hz2 rfl (by decide) _ _ _ rfl (hrow.alloc _) ⟨wr.heap.size, 0, none⟩ 1 1 [.int .i64 (y)] rfl rfl (cell_one_new _ _ _) (fun x hx => by simp at hx; subst hx; rfl) (by unfold maxLen; omega) (by omega) (by simp; omega) ?_; intro v2 w2 hown2 hgrow2 _ hl2)
        have hr6 := Lib.hid ((HR5.out.alloc (.cells #[.int .i64 y] 3)).kept hgrow2 (bags.apart_or hap.out))
        have hap6 : Hid (∀ k, v2.ownBlock = some k → (Value.slice (some ⟨g9, o9, none⟩) N1.length c5).ownBlock ≠ some k) := bags.apart_grow hap.out hl2 (fun q hq => by have := (HR5.out.lt q hq).2; simp; omega)
        obtain ⟨hown3, hB2⟩ := push1 hrow hown2 hgrow2 hsz
        have HO9 := Lib.hid hown3
        have HB9 := Lib.hid (HB.out.trans hB2)
        clear hgrow2 hrow hown2 hown3 hB2 q9 hl2
        go_roundg g2
        case measure => omega
        case rel => exact ⟨k + 1, _, rfl, by omega, by go_num, by rw [HN.out]; exact HO9.out, hr6.out, hap6, HB9.out⟩
end Go.Proofs.Ytbbgbepemnmfdaa.costs

/- CliqueOf: the contracts of the model's l5Less over lists of the same length, and of CliqueOf. -/
namespace Go.Proofs.Ytbbgbepemnmfdaa.ups
open Go.RowKit P2 words edges ints good adjs fns sets rets covs bags balls bitsI func costs
set_option linter.unusedVariables false

theorem drop5 {L : List Int} {i : Nat} {x : Int} (h : L[i]? = some x) : L.drop i = x :: L.drop (i + 1) := by
  obtain ⟨h1, h2⟩ := List.getElem?_eq_some_iff.1 h
  rw [List.drop_eq_getElem_cons h1, h2]
theorem lex5_same {a b : List Int} {i : Nat} {x : Int} (ha : a[i]? = some x) (hb : b[i]? = some x) : lexI (a.drop i) (b.drop i) = lexI (a.drop (i + 1)) (b.drop (i + 1)) := by
  rw [drop5 ha, drop5 hb]; show (if x = x then _ else _) = _; rw [if_pos rfl]
theorem lex5_diff {a b : List Int} {i : Nat} {x y : Int} (ha : a[i]? = some x) (hb : b[i]? = some y) (h : x ≠ y) : lexI (a.drop i) (b.drop i) = decide (x < y) := by
  rw [drop5 ha, drop5 hb]; show (if x = y then _ else _) = _; rw [if_neg h]
theorem lex5_end {a b : List Int} : lexI (a.drop a.length) b = false := by
  rw [List.drop_length]; cases b <;> rfl
set_option maxHeartbeats 2000000 in
set_option maxRecDepth 100000 in
theorem l5LessI_any (u v : Value) (a b : List Int) (w : World) (hu : Ints w u a) (hv : Ints w v b) (hl : a.length = b.length) (ha : a.length ≤ 1048576) :
    Calls Try.prog 49 #[u, v] w fun e w' => e = .returned (.bool (lexI a b)) ∧ Below w.heap.size w w' := by
  obtain ⟨A1, c1, rfl, hc1⟩ := hu.form
  obtain ⟨A2, c2, rfl, hc2⟩ := hv.form
  have HC1 := Lib.hid hc1
  have HC2 := Lib.hid hc2
  have HL := Lib.hid hl
  clear hu hv hc1 hc2 hl
  go_enter Try.func49, Try.ntmps49
  go_wp2_with fail
  go_loopg [5] a.length (fun g i wr => ∃ k : Nat, k + g = a.length ∧ i = .int .i64 (k : Int) ∧ Hid (lexI (a.drop k) (b.drop k) = lexI a b) ∧ Below w.heap.size w wr)
  case atStart => exact ⟨0, by omega, rfl, by show _ = _; rw [List.drop_zero, List.drop_zero], Below.refl _ _⟩
  case round =>
    obtain ⟨k, hkg, rfl, hr, hB⟩ := hrel
    cases gk with
    | zero =>
      obtain rfl : k = a.length := by omega
      have HV : Hid (lexI a b = false) := by show _ = _; rw [← hr.out, lex5_end]
      have hge : ¬ (a.length : Int) < (b.length : Int) := by rw [HL.out]; omega
      go_wp2_with fail
      go_ret
      rw [HV.out]
      refine ⟨?_, hB⟩
      have := HL.out
      first | rfl | simp [this]
    | succ gg =>
      have hlt : k < a.length := by omega
      have hlt' : (k : Int) < (a.length : Int) := by omega
      have hlb' : (k : Int) < (b.length : Int) := by rw [← HL.out]; omega
      obtain ⟨x, hx⟩ : ∃ x, a[k]? = some x := ⟨_, List.getElem?_eq_getElem hlt⟩
      obtain ⟨y, hy⟩ : ∃ y, b[k]? = some y := ⟨_, List.getElem?_eq_getElem (by have := HL.out; omega)⟩
      obtain ⟨g1, o1, rfl, q1⟩ := HC1.out k _ hx
      obtain ⟨g2, o2, rfl, q2⟩ := HC2.out k _ hy
      have r1 := nearv.cell_keep q1 hB
      have r2 := nearv.cell_keep q2 hB
      have HB := Lib.hid (fun nq => below_drewN hB nq)
      have HB2 := Lib.hid (fun n1 n2 => below_drewN (below_drewN hB n1) n2)
      by_cases hxy : x = y
      · subst hxy
        have HK : Hid (lexI (a.drop (k + 1)) (b.drop (k + 1)) = lexI a b) := (lex5_same hx hy).symm.trans hr.out
        have d0 : (x != x) = false := by simp
        clear hx hy q1 q2 hB
        go_wp2_with fail
        go_quiet (fail)
        go_wp2_with fail
        go_roundg gg
        case measure => omega
        case rel => exact ⟨k + 1, by omega, by go_num, HK, HB.out _⟩
      · have HV : Hid (decide (x < y) = lexI a b) := (lex5_diff hx hy hxy).symm.trans hr.out
        have d0 : (x != y) = true := by simpa using hxy
        clear hx hy q1 q2 hB
        go_wp2_with fail
        go_quiet (fail)
        go_wp2_with fail
        go_quiet (fail)
        go_wp2_with fail
        go_ret
        exact ⟨ret_bool HV.out, HB2.out _ _⟩
set_option maxHeartbeats 8000000 in
set_option maxRecDepth 100000 in
theorem specClq_any (s : Int) (v : Value) (l : List Ed) (w : World) (h : Edges w v l) (hl : l.length ≤ 1048576) (hs1 : -9223372036854775808 ≤ s) (hs2 : s ≤ 9223372036854775807) :
    Calls Try.prog 14 #[.agg #[.int .i64 s, v]] w (RetI w (P2.Good s l) (ndN (clqN s.toNat l))) := by
  obtain ⟨A, c, rfl, -⟩ := h.form
  have H := Lib.hid h
  have b0 : Below w.heap.size w ((w.alloc (.cells #[.int .i64 s, .slice A l.length c] 29)).alloc (.cells #[] 3)) := ((Below.refl _ _).alloc (Nat.le_refl _) _).alloc (by simp) _
  have g0 := (Blk.new w 29 #[.int .i64 s, .slice A l.length c]).alloc (.cells #[] 3)
  obtain ⟨p0, p1, -, -⟩ := g0.two
  have o0 := own_new0 (w.alloc (.cells #[.int .i64 s, .slice A l.length c] 29)) 3 1
  rw [World.size_alloc] at o0
  have HGD := Lib.hid (l2Good_any s _ l _ (h.below b0) hl hs1 hs2)
  have HB0 := Lib.hid b0
  have HG0 := Lib.hid g0
  have HO0 := Lib.hid (own_base (B' := w.heap.size) o0 (by omega))
  clear h b0 g0 o0
  by_cases hgd : P2.Good s l
  · rw [goodB_yes hgd] at HGD
    have h0 := hgd.1
    have h8 := hgd.2.1
    have HOK := Lib.hid hgd
    obtain ⟨n, rfl⟩ : ∃ n : Nat, s = (n : Int) := ⟨s.toNat, by omega⟩
    have hn : n ≤ 8 := by omega
    rw [Int.toNat_natCast]
    clear hgd
    have HM0 : Hid (MaxC (clqC n l) rkMax n 1 0) := ⟨Nat.pow_pos (by decide), clq_zero n l, fun c hc _ => by rw [show c = 0 from by omega]; exact Nat.le_refl _⟩
    have HPW := Lib.hid (pow_le hn)
    have HP1 : Hid (1 ≤ 2 ^ n) := Nat.one_le_two_pow
    have HBE := Lib.hid (fun (b : Nat) (hb : MaxC (clqC n l) rkMax n (2 ^ n) b) => (bestC_is hn rkMax_inj hb : clqN n l = b))
    have HTK : Hid (∀ k bst, MaxC (clqC n l) rkMax n k bst → k < 2 ^ n → clqC n l k = true → rkMax bst < rkMax k → MaxC (clqC n l) rkMax n (k + 1) k) := fun k bst h1 h2 h3 h4 => maxC_take h1 h2 h3 h4
    have HND : Hid (∀ c, c < 2 ^ n → nw (bitB c) n = ndN c) := fun c hc => nd_bits hn hc
    have HCQ := Lib.hid (fun (k : Nat) (W : World) (hW : Below w.heap.size w W) (u : Value) (hu : Ints W u (nw (bitB k) n)) => l5Clique_any (n : Int) (.slice A l.length c) u l (nw (bitB k) n) W (H.out.below hW) hl hu (by have := nw_len (bitB k) n; omega))
    have HBT := Lib.hid (fun (bst k : Nat) (hb : MaxC (clqC n l) rkMax n k bst) => hb.1)
    have hz0 : nw (bitB 0) n = [] := by rw [nd_bits hn (Nat.pow_pos (by decide))]; decide
    have HZ0 := Lib.hid hz0
    clear hz0
    have hsh : IntKind.i64.wrap ((2 : Int) ^ n) = ((2 ^ n : Nat) : Int) := by
      have hpn := pow_le hn
      rw [show ((2 : Int) ^ n) = ((2 ^ n : Nat) : Int) from by simp]
      generalize 2 ^ n = z at *
      exact Go.IntWalk.i64_in _ (by omega)
    have hN256 := HPW.out
    have hN1 := HP1.out
    generalize hNN : 2 ^ n = N at *
    clear hNN
    go_enter Try.func14, Try.ntmps14
    go_wp2_with fail
    refine HGD.out.mono ?_
    rintro e w2 ⟨rfl, b2⟩
    have HE2 := Lib.hid (btrans HB0.out b2)
    have HG2 := Lib.hid (HG0.out.below b2 HG0.out.lt)
    have HO2 : Hid (w2.ownsRow w.heap.size 3 1 (.slice (some ⟨w.heap.size + 1, 0, none⟩) 0 0) (nw (bitB 0) n).length (cellsI (nw (bitB 0) n))) := by
      show World.ownsRow _ _ _ _ _ _ _
      rw [HZ0.out]
      exact own_below HO0.out b2
    clear p0 p1 b2 HGD HB0 HG0 HO0 HZ0
    go_wp2_with fail
    go_loopg [4, 5] (N - 1) (fun g bv cv wr => ∃ (k bst : Nat) (ow : Value), ow = bv ∧ k + g = N ∧ cv = .int .i64 (k : Int) ∧ Hid (MaxC (clqC n l) rkMax n k bst) ∧ wr.ownsRow w.heap.size 3 1 ow (nw (bitB bst) n).length (cellsI (nw (bitB bst) n)) ∧ Blk wr w.heap.size 29 #[.int .i64 (n : Int), .slice A l.length c] ∧ Below w.heap.size w wr)
    case atStart => exact ⟨1, 0, _, rfl, by omega, rfl, HM0, HO2.out, HG2.out, HE2.out⟩
    case round =>
      clear HM0 HO2 HG2 HE2
      obtain ⟨k, bst, ow, rfl, hkg, rfl, hmx, hrow, hgb, hB⟩ := hrel
      obtain ⟨A4, c4, rfl⟩ := own_form hrow
      obtain ⟨p0, p1, -, -⟩ := hgb.two
      have HR := Lib.hid hrow
      have HG := Lib.hid hgb
      have HB := Lib.hid hB
      have hbl := nw_len (bitB bst) n
      have HBN := Lib.hid (HBT.out bst k hmx.out)
      have HB2 := Lib.hid (HND.out bst HBN.out)
      clear hrow hgb hB
      cases gk with
      | zero =>
        obtain rfl : k = N := by omega
        have HV : Hid (clqN n l = bst) := HBE.out bst hmx.out
        go_wp2_with fail
        go_ret2
        have HR2 := HR.out
        rw [HB2.out] at HR2 ⊢
        rw [HV.out]
        exact RetI.yes HOK.out HR2 HB.out
      | succ g2 =>
        have hkN : k < N := by omega
        have hkN' : (k : Int) < (N : Int) := by omega
        have HBI := Lib.hid (l2Bits_any n k wr hn (by omega))
        have HNK := Lib.hid (HND.out k hkN)
        have hkl := nw_len (bitB k) n
        go_wp2_with fail
        refine HBI.out.mono ?_
        rintro e w3 ⟨A5, c5, rfl, o5, b5⟩
        have HB3 := Lib.hid (btrans HB.out b5)
        have HG3 := Lib.hid (HG.out.below b5 HG.out.lt)
        have HR3 := Lib.hid (own_below HR.out b5)
        have HO5 := Lib.hid (own_base (B' := w.heap.size) o5 HB.out.size)
        have hS3 := HCQ.out k w3 HB3.out (.slice A5 (nw (bitB k) n).length c5) (Reads.of_own o5)
        rw [clq_nw] at hS3
        have HS3 := Lib.hid hS3
        have h12 : Hid ((nw (bitB k) n).length = onesN k ∧ (nw (bitB bst) n).length = onesN bst) := ⟨by rw [HNK.out]; rfl, by rw [HB2.out]; rfl⟩
        have hbm := better_max (a := k) (b := bst) (by omega) (by have := HBN.out; omega)
        clear p0 p1 b5 o5 hS3
        obtain ⟨p0, p1, -, -⟩ := HG3.out.two
        cases hfb : clqC n l k with
        | false =>
          have HN := Lib.hid (maxC_skip hmx.out hfb)
          unfold clqC at hfb
          rw [hfb] at HS3
          clear hfb hbm
          go_wp2_with fail
          refine HS3.out.mono ?_
          rintro e w4 ⟨rfl, b6⟩
          have HB4 := Lib.hid (btrans HB3.out b6)
          have HG4 := Lib.hid (HG3.out.below b6 HG3.out.lt)
          have HR4 := Lib.hid (own_below HR3.out b6)
          clear b6 p0 p1
          go_wp2_with fail
          go_roundg g2
          case measure => omega
          case rel => exact ⟨k + 1, bst, _, rfl, by omega, by go_num, HN, HR4.out, HG4.out, HB4.out⟩
        | true =>
          have HTT := Lib.hid (fun (h : rkMax bst < rkMax k) => HTK.out k bst hmx.out hkN hfb h)
          have HLL := Lib.hid (fun (h : ¬ rkMax bst < rkMax k) => maxC_less hmx.out h)
          unfold clqC at hfb
          rw [hfb] at HS3
          clear hfb
          go_wp2_with fail
          refine HS3.out.mono ?_
          rintro e w4 ⟨rfl, b6⟩
          have HB4 := Lib.hid (btrans HB3.out b6)
          have HG4 := Lib.hid (HG3.out.below b6 HG3.out.lt)
          have HR4 := Lib.hid (own_below HR3.out b6)
          have HO4 := Lib.hid (own_below HO5.out b6)
          clear b6 p0 p1
          by_cases c1 : onesN bst < onesN k
          · have c2 : (nw (bitB bst) n).length < (nw (bitB k) n).length := by rw [h12.out.1, h12.out.2]; exact c1
            have c3 : ((nw (bitB bst) n).length : Int) < ((nw (bitB k) n).length : Int) := by omega
            have HN := Lib.hid (HTT.out (by rw [decide_eq_true c1, Bool.true_or] at hbm; exact of_decide_eq_true hbm.symm))
            clear hbm c1
            go_wp2_with fail
            go_roundg g2
            case measure => omega
            case rel => exact ⟨k + 1, k, _, rfl, by omega, by go_num, HN, HO4.out, HG4.out, HB4.out⟩
          · have c2 : ¬ (nw (bitB bst) n).length < (nw (bitB k) n).length := by rw [h12.out.1, h12.out.2]; exact c1
            have c3 : ¬ ((nw (bitB bst) n).length : Int) < ((nw (bitB k) n).length : Int) := by omega
            rw [decide_eq_false c1, Bool.false_or] at hbm
            by_cases c4 : onesN k = onesN bst
            · have c5 : Hid ((nw (bitB k) n).length = (nw (bitB bst) n).length) := by show _ = _; rw [h12.out.1, h12.out.2]; exact c4
              have c6 : (((nw (bitB k) n).length : Int) == ((nw (bitB bst) n).length : Int)) = true := by rw [c5.out]; simp
              have c7 : ((nw (bitB k) n).length == (nw (bitB bst) n).length) = true := by rw [c5.out]; simp
              rw [decide_eq_true c4, Bool.true_and] at hbm
              have HLS := Lib.hid (l5LessI_any _ _ (nw (bitB k) n) (nw (bitB bst) n) w4 (show Ints _ _ _ from Reads.of_own HO4.out) (show Ints _ _ _ from Reads.of_own HR4.out) c5.out (by omega))
              rw [HNK.out, HB2.out, hbm] at HLS
              rw [← HNK.out, ← HB2.out] at HLS
              clear c1 c4 hbm
              by_cases hlx : rkMax bst < rkMax k
              · rw [decide_eq_true hlx] at HLS
                have HN := Lib.hid (HTT.out hlx)
                clear hlx
                go_wp2_with fail
                refine HLS.out.mono ?_
                rintro e w5 ⟨rfl, b7⟩
                have HB5 := Lib.hid (btrans HB4.out b7)
                have HG5 := Lib.hid (HG4.out.below b7 HG4.out.lt)
                have HO7 := Lib.hid (own_below HO4.out b7)
                clear b7
                go_wp2_with fail
                go_roundg g2
                case measure => omega
                case rel => exact ⟨k + 1, k, _, rfl, by omega, by go_num, HN, HO7.out, HG5.out, HB5.out⟩
              · rw [decide_eq_false hlx] at HLS
                have HN := Lib.hid (HLL.out hlx)
                clear hlx
                go_wp2_with fail
                refine HLS.out.mono ?_
                rintro e w5 ⟨rfl, b7⟩
                have HB5 := Lib.hid (btrans HB4.out b7)
                have HG5 := Lib.hid (HG4.out.below b7 HG4.out.lt)
                have HR7 := Lib.hid (own_below HR4.out b7)
                clear b7
                go_wp2_with fail
                go_roundg g2
                case measure => omega
                case rel => exact ⟨k + 1, bst, _, rfl, by omega, by go_num, HN, HR7.out, HG5.out, HB5.out⟩
            · have c5 : (nw (bitB k) n).length ≠ (nw (bitB bst) n).length := by rw [h12.out.1, h12.out.2]; exact c4
              have c6 : (((nw (bitB k) n).length : Int) == ((nw (bitB bst) n).length : Int)) = false := by rw [beq_eq_false_iff_ne]; omega
              have c7 : ((nw (bitB k) n).length == (nw (bitB bst) n).length) = false := by rw [beq_eq_false_iff_ne]; exact c5
              rw [decide_eq_false c4, Bool.false_and] at hbm
              have HN := Lib.hid (HLL.out (of_decide_eq_false hbm.symm))
              clear c1 c4 hbm
              go_wp2_with fail
              go_roundg g2
              case measure => omega
              case rel => exact ⟨k + 1, bst, _, rfl, by omega, by go_num, HN, HR4.out, HG4.out, HB4.out⟩
  · rw [goodB_no hgd] at HGD
    have HNO := Lib.hid hgd
    clear hgd
    go_enter Try.func14, Try.ntmps14
    go_wp2_with fail
    refine HGD.out.mono ?_
    rintro e w1 ⟨rfl, b1⟩
    have HE1 := Lib.hid (btrans HB0.out b1)
    have HO1 := Lib.hid (own_below HO0.out b1)
    clear p0 p1 b1
    go_wp2_with fail
    go_ret2
    exact RetI.no HNO.out HO1.out HE1.out
theorem clq_len (s : Int) (l : List Ed) : (inG (P2.Good s l) (ndN (clqN s.toNat l))).length ≤ 1048576 := inG_len fun _ => by
  unfold ndN
  have := nw_len (bitB (clqN s.toNat l)) 8
  omega
end Go.Proofs.Ytbbgbepemnmfdaa.ups

/- FnExactCliqueOf returns true for every Graph: the program's CliqueOf and the model's return the same, in memory of their own, and write into nothing that was there. No conditions. -/
namespace Go.Proofs.Ytbbgbepemnmfdaa.exClq
open Go.ChangeShapes Go.WideShapes Go.ChangeAt Go.RowKit P2 words edges ints owns good adjs fns rets sets bags ups _root_.Go.Proofs.Ytbbgbepemnmfdaa.opens
set_option linter.unusedVariables false

set_option maxHeartbeats 4000000 in
set_option maxRecDepth 100000 in
theorem core (s0 : Int) (A0 : Option Addr) (c0 : Nat) (l0 : List Ed) (w : World) (h0 : Edges w (.slice A0 l0.length c0) l0) (hl0 : l0.length ≤ 1048576)
    (HS : Hid (∀ (B0 : Option Addr) (d0 : Nat) (W : World), Edges W (.slice B0 l0.length d0) l0 → Calls Try.prog 14 #[.agg #[.int .i64 s0, .slice B0 l0.length d0]] W fun e W' => ∃ Ar cr, e = .returned (.tuple #[.slice Ar (inG (P2.Good s0 l0) (ndN (clqN s0.toNat l0))).length cr, .bool (okG (P2.Good s0 l0))]) ∧ W'.ownsRow W.heap.size 3 1 (.slice Ar (inG (P2.Good s0 l0) (ndN (clqN s0.toNat l0))).length cr) (inG (P2.Good s0 l0) (ndN (clqN s0.toNat l0))).length (cellsI (inG (P2.Good s0 l0) (ndN (clqN s0.toNat l0)))) ∧ Below W.heap.size W W'))
    (HI : Hid (∀ (B0 : Option Addr) (d0 : Nat) (W : World), Edges W (.slice B0 l0.length d0) l0 → Calls Try.prog 16 #[.agg #[.int .i64 s0, .slice B0 l0.length d0]] W fun e W' => ∃ Ar cr, e = .returned (.tuple #[.slice Ar (inG (P2.Good s0 l0) (ndN (clqN s0.toNat l0))).length cr, .bool (okG (P2.Good s0 l0))]) ∧ W'.ownsRow W.heap.size 3 1 (.slice Ar (inG (P2.Good s0 l0) (ndN (clqN s0.toNat l0))).length cr) (inG (P2.Good s0 l0) (ndN (clqN s0.toNat l0))).length (cellsI (inG (P2.Good s0 l0) (ndN (clqN s0.toNat l0)))) ∧ Below W.heap.size W W')) (hlen : (inG (P2.Good s0 l0) (ndN (clqN s0.toNat l0))).length ≤ 1048576) :
    Calls Try.prog 3 #[.agg #[.int .i64 s0, .slice A0 l0.length c0]] w fun e w' => e = .returned (.bool true) ∧ Below w.heap.size w w' := by
  have H0 := Lib.hid h0
  have b0_0 : Below w.heap.size w (w.alloc (.cells #[.int .i64 s0, .slice A0 l0.length c0] 24)) := (Below.refl _ _).alloc (Nat.le_refl _) _
  have e0_0 : Below w.heap.size w (w.alloc (.cells #[.int .i64 s0, .slice A0 l0.length c0] 24)) := b0_0
  have g0 := Blk.new w 24 #[.int .i64 s0, .slice A0 l0.length c0]
  have z0_0 := Lib.hid b0_0.size
  have yag := Lib.hid g0.lt
  have hself : ∀ b : Bool, (b != b) = false := fun b => by simp
  clear h0
  go_enter Try.func3, Try.ntmps3
  have hz0 : ((l0.length : Nat) : Int) ≤ 1048576 := by omega
  obtain ⟨pag0, pag1, -, -⟩ := g0.two
  go_wp2_with fail
  refine (szGraph_yes s0 (.slice A0 l0.length c0) l0 (1048576) (w.alloc (.cells #[.int .i64 s0, .slice A0 l0.length c0] 24)) (H0.out.below e0_0) (by omega) (by omega)).mono ?_
  rintro e w2 ⟨rfl, bw2⟩
  clear pag0 pag1
  have e0 := btrans e0_0 bw2
  have z0 := Lib.hid bw2.size
  replace g0 := g0.below bw2 g0.lt
  clear bw2
  obtain ⟨pag0, pag1, -, -⟩ := g0.two
  go_wp2_with fail
  refine (toGraph_any s0 (.slice A0 l0.length c0) l0 w2 (H0.out.below e0) hl0).mono ?_
  rintro e w3 ⟨Apg, cpg, rfl, opg, bw3⟩
  clear pag0 pag1
  have e1 := btrans e0 bw3
  have z1 := Lib.hid bw3.size
  replace g0 := g0.below bw3 g0.lt
  clear bw3 e0
  have opg_ := OwnR.new opg
  clear opg
  go_wp2_with fail
  refine (HS.out Apg cpg w3 opg_.reads).mono ?_
  rintro e w4 ⟨Aw, cw, rfl, ow, bw4⟩
  have e2 := btrans e1 bw4
  have z2 := Lib.hid bw4.size
  replace g0 := g0.below bw4 g0.lt
  replace opg_ := opg_.below bw4
  clear bw4 e1
  have ow_ := OwnR.new ow
  clear ow
  obtain ⟨pag0, pag1, -, -⟩ := g0.two
  go_wp2_with fail
  refine (toGraph_any s0 (.slice A0 l0.length c0) l0 w4 (H0.out.below e2) hl0).mono ?_
  rintro e w5 ⟨Axg, cxg, rfl, oxg, bw5⟩
  clear pag0 pag1
  have e3 := btrans e2 bw5
  have z3 := Lib.hid bw5.size
  replace g0 := g0.below bw5 g0.lt
  replace ow_ := ow_.below bw5
  clear bw5 e2
  have oxg_ := OwnR.new oxg
  clear oxg
  have bxxg : Below w5.heap.size w5 (w5.alloc (.cells #[.int .i64 s0, .slice Axg l0.length cxg] 29)) := (Below.refl _ _).alloc (Nat.le_refl _) _
  have gxg := Blk.new w5 29 #[.int .i64 s0, .slice Axg l0.length cxg]
  have e4 := btrans e3 bxxg
  have z4 := Lib.hid bxxg.size
  replace g0 := g0.below bxxg g0.lt
  replace ow_ := ow_.below bxxg
  replace oxg_ := oxg_.below bxxg
  clear bxxg e3
  have yxg := Lib.hid gxg.lt
  obtain ⟨pxg0, pxg1, -, -⟩ := gxg.two
  go_wp2_with fail
  refine (HI.out Axg cxg (w5.alloc (.cells #[.int .i64 s0, .slice Axg l0.length cxg] 29)) oxg_.reads).mono ?_
  rintro e w6 ⟨Ag, cg, rfl, og, bw6⟩
  clear pxg0 pxg1
  have e5 := btrans e4 bw6
  have z5 := Lib.hid bw6.size
  replace g0 := g0.below bw6 g0.lt
  replace gxg := gxg.below bw6 gxg.lt
  replace ow_ := ow_.below bw6
  replace oxg_ := oxg_.below bw6
  clear bw6 e4
  have og_ := OwnR.new og
  clear og
  go_wp2_with fail
  refine (eqIntS_own _ _ (inG (P2.Good s0 l0) (ndN (clqN s0.toNat l0))) w6 og_.reads ow_.reads hlen).mono ?_
  rintro e w7 ⟨rfl, bw7⟩
  have e6 := btrans e5 bw7
  have z6 := Lib.hid bw7.size
  replace g0 := g0.below bw7 g0.lt
  replace gxg := gxg.below bw7 gxg.lt
  replace ow_ := ow_.below bw7
  replace oxg_ := oxg_.below bw7
  replace og_ := og_.below bw7
  clear bw7 e5
  obtain ⟨pag0, pag1, -, -⟩ := g0.two
  obtain ⟨pxg0, pxg1, -, -⟩ := gxg.two
  have HA := Lib.hid (H0.out.below e6)
  have HX := Lib.hid (oxg_.reads)
  go_wp2_with fail
  go_region_held3 (fun w' => w'.cell? ⟨w.heap.size, 0, none⟩ = some (.int .i64 s0) ∧ w'.cell? ⟨w.heap.size, 1, none⟩ = some (.slice A0 l0.length c0) ∧ w'.cell? ⟨w5.heap.size, 0, none⟩ = some (.int .i64 s0) ∧ w'.cell? ⟨w5.heap.size, 1, none⟩ = some (.slice Axg l0.length cxg)) (go_keep)
    (first | (go_at_call 15; refine (toGraph_k s0 (.slice A0 l0.length c0) l0 w7.drew HA.out hl0 (p := ⟨w.heap.size, 0, none⟩) (q := ⟨w.heap.size, 1, none⟩) (r := ⟨w5.heap.size, 0, none⟩) (t := ⟨w5.heap.size, 1, none⟩) (a := .int .i64 s0) (b := .slice A0 l0.length c0) (c := .int .i64 s0) (d := .slice Axg l0.length cxg) ?_ ?_ ?_ ?_).mono ?_; (simp [*]); (simp [*]); (simp [*]); (simp [*]); rintro e w8 ⟨⟨Ay, cy, rfl, oy⟩, k0, k1, k2, k3, bw8⟩)
           | (go_at_call 18; refine (eqGraph_k s0 _ _ l0 _ (Reads.below (w := w7.drew) HX.out bw8) (Reads.of_own oy) hl0 (p := ⟨w.heap.size, 0, none⟩) (q := ⟨w.heap.size, 1, none⟩) (r := ⟨w5.heap.size, 0, none⟩) (t := ⟨w5.heap.size, 1, none⟩) (a := .int .i64 s0) (b := .slice A0 l0.length c0) (c := .int .i64 s0) (d := .slice Axg l0.length cxg) ?_ ?_ ?_ ?_).mono ?_; (simp [*]); (simp [*]); (simp [*]); (simp [*]); rintro e w9 ⟨rfl, m0, m1, m2, m3, bw9⟩))
  clear k0 k1 k2 k3 m0 m1 m2 m3 HA HX oy
  clear pag0 pag1 pxg0 pxg1
  have cw8 : Below w7.heap.size w7 w8 := (Below.refl _ _).drew.trans bw8
  clear bw8
  have e7 := btrans e6 cw8
  have z7 := Lib.hid cw8.size
  replace g0 := g0.below cw8 g0.lt
  replace gxg := gxg.below cw8 gxg.lt
  replace ow_ := ow_.below cw8
  replace oxg_ := oxg_.below cw8
  replace og_ := og_.below cw8
  clear cw8 e6
  have e8 := btrans e7 bw9
  have z8 := Lib.hid bw9.size
  replace g0 := g0.below bw9 g0.lt
  replace gxg := gxg.below bw9 gxg.lt
  replace ow_ := ow_.below bw9
  replace oxg_ := oxg_.below bw9
  replace og_ := og_.below bw9
  clear bw9 e7
  obtain ⟨pxg0, pxg1, -, -⟩ := gxg.two
  go_wp2_with fail
  refine (markGraph_own s0 _ l0 _ _ (1) w9 oxg_ (by omega)).mono ?_
  rintro e w10 ⟨rfl, om, tw10⟩
  clear pxg0 pxg1
  have uz0_0 := z0_0.out
  have uyag := yag.out
  have uz0 := z0.out
  have uz1 := z1.out
  have uz2 := z2.out
  have uz3 := z3.out
  have uz4 := z4.out
  have uyxg := yxg.out
  have uz5 := z5.out
  have uz6 := z6.out
  have uz7 := z7.out
  have uz8 := z8.out
  have e9 : Below w.heap.size w w10 := e8.trans (tw10.below (by omega) (by omega))
  have z9 := Lib.hid tw10.size
  replace g0 := blk_turned g0 tw10 (by omega)
  replace gxg := blk_turned gxg tw10 (by omega)
  replace ow_ := ow_.turned tw10 (by omega)
  replace og_ := og_.turned tw10 (by omega)
  clear uz0_0 uyag uz0 uz1 uz2 uz3 uz4 uyxg uz5 uz6 uz7 uz8
  clear oxg_ tw10 e8
  have oxg_ := om
  clear om
  go_wp2_with fail
  refine (eqIntS_own _ _ (inG (P2.Good s0 l0) (ndN (clqN s0.toNat l0))) w10 og_.reads ow_.reads hlen).mono ?_
  rintro e w11 ⟨rfl, bw11⟩
  have e10 := btrans e9 bw11
  have z10 := Lib.hid bw11.size
  replace g0 := g0.below bw11 g0.lt
  replace gxg := gxg.below bw11 gxg.lt
  replace ow_ := ow_.below bw11
  replace oxg_ := oxg_.below bw11
  replace og_ := og_.below bw11
  clear bw11 e9
  clear oxg_
  clear gxg
  go_wp2_with fail
  refine (markIntS_own _ (inG (P2.Good s0 l0) (ndN (clqN s0.toNat l0))) _ _ 1 w11 og_ (by omega)).mono ?_
  rintro e w12 ⟨rfl, om, tw12⟩
  have uz0_0 := z0_0.out
  have uyag := yag.out
  have uz0 := z0.out
  have uz1 := z1.out
  have uz2 := z2.out
  have uz3 := z3.out
  have uz4 := z4.out
  have uyxg := yxg.out
  have uz5 := z5.out
  have uz6 := z6.out
  have uz7 := z7.out
  have uz8 := z8.out
  have uz9 := z9.out
  have uz10 := z10.out
  have e11 : Below w.heap.size w w12 := e10.trans (tw12.below (by omega) (by omega))
  have z11 := Lib.hid tw12.size
  replace g0 := blk_turned g0 tw12 (by omega)
  replace ow_ := ow_.turned tw12 (by omega)
  clear uz0_0 uyag uz0 uz1 uz2 uz3 uz4 uyxg uz5 uz6 uz7 uz8 uz9 uz10
  clear og_ tw12 e10
  have og_ := om
  clear om
  go_wp2_with fail
  refine (heldIntS_own _ (inG (P2.Good s0 l0) (ndN (clqN s0.toNat l0))).length _ _ 1 w12 og_ (by omega)).mono ?_
  rintro e w13 ⟨rfl, bw13⟩
  have e12 := btrans e11 bw13
  have z12 := Lib.hid bw13.size
  replace g0 := g0.below bw13 g0.lt
  replace ow_ := ow_.below bw13
  replace og_ := og_.below bw13
  clear bw13 e11
  obtain ⟨pag0, pag1, -, -⟩ := g0.two
  go_wp2_with fail
  refine (toGraph_any s0 (.slice A0 l0.length c0) l0 w13 (H0.out.below e12) hl0).mono ?_
  rintro e w14 ⟨Aqg, cqg, rfl, oqg, bw14⟩
  clear pag0 pag1
  have e13 := btrans e12 bw14
  have z13 := Lib.hid bw14.size
  replace g0 := g0.below bw14 g0.lt
  replace ow_ := ow_.below bw14
  replace og_ := og_.below bw14
  clear bw14 e12
  have oqg_ := OwnR.new oqg
  clear oqg
  go_wp2_with fail
  refine (HI.out Aqg cqg w14 oqg_.reads).mono ?_
  rintro e w15 ⟨Ah, ch, rfl, oh, bw15⟩
  have e14 := btrans e13 bw15
  have z14 := Lib.hid bw15.size
  replace g0 := g0.below bw15 g0.lt
  replace ow_ := ow_.below bw15
  replace og_ := og_.below bw15
  replace oqg_ := oqg_.below bw15
  clear bw15 e13
  have oh_ := OwnR.new oh
  clear oh
  clear oqg_
  go_wp2_with fail
  refine (eqIntS_own _ _ (inG (P2.Good s0 l0) (ndN (clqN s0.toNat l0))) w15 oh_.reads ow_.reads hlen).mono ?_
  rintro e w16 ⟨rfl, bw16⟩
  have e15 := btrans e14 bw16
  have z15 := Lib.hid bw16.size
  replace g0 := g0.below bw16 g0.lt
  replace ow_ := ow_.below bw16
  replace og_ := og_.below bw16
  replace oh_ := oh_.below bw16
  clear bw16 e14
  go_wp2_with fail
  refine (heldIntS_own _ (inG (P2.Good s0 l0) (ndN (clqN s0.toNat l0))).length _ _ 1 w16 og_ (by omega)).mono ?_
  rintro e w17 ⟨rfl, bw17⟩
  have e16 := btrans e15 bw17
  have z16 := Lib.hid bw17.size
  replace g0 := g0.below bw17 g0.lt
  replace ow_ := ow_.below bw17
  replace og_ := og_.below bw17
  replace oh_ := oh_.below bw17
  clear bw17 e15
  go_wp2_with fail
  go_ret
  exact ⟨rfl, e16⟩

set_option maxHeartbeats 1000000 in
set_option maxRecDepth 100000 in
theorem walk (s0 : Int) (u0 : Value) (l0 : List Ed) (w : World) (w0 : IsGr w s0 u0 l0) :
    Calls Try.prog 3 #[.agg #[.int .i64 s0, u0]] w fun e w' => e = .returned (.bool true) ∧ Below w.heap.size w w' := by
  obtain ⟨h0, hm0, hs0, ht0⟩ := w0
  obtain ⟨A0, c0, rfl, -⟩ := h0.form
  unfold maxLen at hm0
  have b0_0 : Below w.heap.size w (w.alloc (.cells #[.int .i64 s0, .slice A0 l0.length c0] 24)) := (Below.refl _ _).alloc (Nat.le_refl _) _
  have e0_0 : Below w.heap.size w (w.alloc (.cells #[.int .i64 s0, .slice A0 l0.length c0] 24)) := b0_0
  have g0 := Blk.new w 24 #[.int .i64 s0, .slice A0 l0.length c0]
  by_cases hl0 : l0.length ≤ 1048576
  rotate_left
  · have hlt : (1048576 : Int) < (l0.length : Int) := by omega
    have HZ := Lib.hid (szGraph_no s0 (.slice A0 l0.length c0) l0 1048576 _ (h0.below e0_0) hlt (by omega) (by omega))
    clear h0
    obtain ⟨p0, p1, -, -⟩ := g0.two
    go_enter Try.func3, Try.ntmps3
    go_wp2_with fail
    refine HZ.out.mono ?_
    rintro e w1 ⟨rfl, b1⟩
    go_wp2_with fail
    go_ret
    exact ⟨rfl, btrans e0_0 b1⟩
  exact core s0 A0 c0 l0 w h0 hl0 (Lib.hid (fun B0 d0 W k0 => specClq_any s0 _ l0 W k0 hl0 hs0 ht0)) (Lib.hid (fun B0 d0 W k0 => implClq_any s0 _ l0 W k0 hl0)) (clq_len s0 l0)

theorem own : ownKnob Try.prog.godebug = none := by kernel_rfl
theorem laidOut : laidOutB Try.prog = true := by kernel_rfl

set_option maxHeartbeats 1000000 in
set_option maxRecDepth 100000 in
theorem lifted (os : Os) (started : os.Started) (H : Type) (enc : TypeId × Value → H) :
    ReturnsInHanded {} Try.checked os 3 .any (Rows.fnExactCliqueOfSpec.pre6 enc Try.prog Try.f3 Rows.fnExactCliqueOfRow.domain false) (Rows.fnExactCliqueOfSpec.post enc Try.prog Try.f3 false true false false) := by
  refine returnsInHanded_of_change (C := Try.checked) own started (by kernel_rfl) Try.func3
    (ChangeSpec.witness6 (enc := enc) (C := Try.checked) false ⟨#[], #[.agg #[.int .i64 0, .slice none 0 0]], []⟩ 8 (by kernel_rfl) (by kernel_rfl) (by kernel_rfl) (by kernel_rfl)) ?_
  intro W base args ds gs before hval0 hW hcnd _
  have hval : ∀ (j : Nat) t v, Try.f3.params[j]? = some t → args[j]? = some v → Value.okWide Try.prog W .any base t v := hval0
  have hW' := hW
  obtain ⟨p, q, hA0, hV, rfl, hfz, hnd⟩ := hW
  have hA : DataW.TrodAll enc Try.prog W 0 (fun _ => true) true Try.f3.params.toList args.toList ds p := hA0
  rw [Try.params3] at hA hval
  obtain ⟨v0, vs0, d0, ds0, p0, q0, hargs, rfl, rfl, h0, r0⟩ := trodAll_cons hA
  obtain ⟨rfl, rfl, rfl⟩ := trodAll_nil r0
  obtain rfl : args = #[v0] := by cases args; simp_all
  obtain ⟨rfl, rfl⟩ := trodVars_none hV
  have k0 := h0
  have lt0 : ∀ x ∈ p0, x.block < W.heap.size := by obtain ⟨m, hm⟩ := k0; exact DataW.trod_lt m _ _ _ hm
  obtain ⟨s0, u0, l0, rfl, w0⟩ := opens.open_graph (hval 0 24 v0 rfl rfl) h0
  clear hA0 hval0
  refine (walk s0 u0 l0 W w0).mono fun e W' ⟨he, bel⟩ => ?_
  subst he
  exact ⟨_, rfl, _, _, _, [], _, [], hW', trodAll_mk1 (shut_bool Try.underlying4 _), (trodAll_cons_mk (Below.trod laidOut (by kernel_rfl) (of_decide_eq_true (by kernel_rfl)) k0 bel lt0) trodAll_mk0), rfl, bel.frame _, fun h => by cases h⟩

theorem over : Rows.fnExactCliqueOfRow.holds Try.pinned (OpenSpec.ofChange Rows.fnExactCliqueOfSpec) :=
  OpenClaim.holds_of_wide 3 Try.f3 rfl rfl rfl rfl rfl rfl rfl ⟨rfl, rfl, rfl, rfl, rfl⟩ rfl rfl rfl rfl rfl (by kernel_rfl) Try.func3 (by kernel_rfl)
    (of_decide_eq_true (by kernel_rfl)) (by unfold Func.isWrapper; first | (rw [if_pos (by decide +kernel)]; kernel_rfl) | (rw [if_neg (by decide +kernel)]; exact ⟨rfl, rfl⟩))
    (fun os started H enc _ => lifted os started H enc)

theorem fnExactCliqueOf_holds : Rows.FnExactCliqueOfSaid := over
end Go.Proofs.Ytbbgbepemnmfdaa.exClq
