/- Cliques: the contracts of the model's l5Clique and l5Among. -/
import Derived.Handy
import Derived.Test.YtbbgbepemnmfdaaPerfM
import Derived.Test.YtbbgbepemnmfdaaLater
import Derived.Test.YtbbgbepemnmfdaaNeighS
import Derived.Test.YtbbgbepemnmfdaaBall
import Derived.Maps.AppendAt
import Derived.Deep.DeepCutAuto
import Derived.Deep.RegionHeld3
import Derived.Test.YtbbgbepemnmfdaaG01
import Derived.Test.YtbbgbepemnmfdaaInd
import Derived.Test.YtbbgbepemnmfdaaMinMax
import Derived.Test.YtbbgbepemnmfdaaGoodS
import Derived.Test.YtbbgbepemnmfdaaOwn
import Derived.Test.YtbbgbepemnmfdaaOpen
import Derived.Test.YtbbgbepemnmfdaaRows
import Derived.ProofKit
import Derived.OpenShut
import Derived.ChangeOld
import Derived.Carry
namespace Go.Proofs.Ytbbgbepemnmfdaa.costs
open Go.RowKit P2 words edges ints good adjs fns sets rets covs reach bags balls bitsI fronts
set_option linter.unusedVariables false

theorem nwf (p : Nat → Bool) (q : Int → Bool) (n : Nat) : (nw p n).filter q = nw (fun z => p z && q (z : Int)) n := by
  unfold nw
  rw [List.filter_map, List.filter_filter]
  congr 1
  exact List.filter_congr fun z _ => by simp [Bool.and_comm]
/-- any two numbers of a list are neighbors -/
def ClqL (l : List Ed) (xs : List Int) : Prop := ∀ (a b : Nat) (x y : Int), a < b → xs[a]? = some x → xs[b]? = some y → adj l x y = true
def ClqA (l : List Ed) (xs : List Int) (i : Nat) : Prop := ∀ (a b : Nat) (x y : Int), a < i → a < b → xs[a]? = some x → xs[b]? = some y → adj l x y = true
def ClqB (l : List Ed) (xs : List Int) (i k : Nat) : Prop := ClqA l xs i ∧ ∀ (b : Nat) (x y : Int), i < b → b < k → xs[i]? = some x → xs[b]? = some y → adj l x y = true
theorem ClqA.inner {l : List Ed} {xs : List Int} {i : Nat} (h : ClqA l xs i) : ClqB l xs i (i + 1) := ⟨h, fun b x y h1 h2 => by omega⟩
theorem ClqB.next {l : List Ed} {xs : List Int} {i k : Nat} {x y : Int} (h : ClqB l xs i k) (hx : xs[i]? = some x) (hy : xs[k]? = some y) (ha : adj l x y = true) : ClqB l xs i (k + 1) :=
  ⟨h.1, fun b x' y' h1 h2 h3 h4 => by
    by_cases e : b = k
    · subst e; rw [hx] at h3; rw [hy] at h4; cases h3; cases h4; exact ha
    · exact h.2 b x' y' h1 (by omega) h3 h4⟩
theorem ClqB.all {l : List Ed} {xs : List Int} {i k : Nat} (h : ClqB l xs i k) (hk : xs.length ≤ k) : ClqA l xs (i + 1) := fun a b x y h1 h2 h3 h4 => by
  have hb := (List.getElem?_eq_some_iff.1 h4).1
  by_cases e : a = i
  · subst e; exact h.2 b x y h2 (by omega) h3 h4
  · exact h.1 a b x y (by omega) h2 h3 h4
theorem ClqA.done {l : List Ed} {xs : List Int} {i : Nat} (h : ClqA l xs i) (hi : xs.length ≤ i) : ClqL l xs := fun a b x y h1 h2 h3 => by
  have ha := (List.getElem?_eq_some_iff.1 h2).1
  exact h a b x y (by omega) h1 h2 h3
theorem clq_nw {n : Nat} {l : List Ed} {P : Nat → Bool} : okG (ClqL l (nw P n)) = cliqueB n l P := by
  rw [Bool.eq_iff_iff, okG_iff, cliqueB_iff]
  constructor
  · intro h a b ha hb hpa hpb hne
    obtain ⟨i, hi⟩ := List.getElem?_of_mem (mem_nw.2 ⟨a, ha, hpa, rfl⟩)
    obtain ⟨j, hj⟩ := List.getElem?_of_mem (mem_nw.2 ⟨b, hb, hpb, rfl⟩)
    rcases Nat.lt_trichotomy i j with hh | hh | hh
    · exact h i j _ _ hh hi hj
    · subst hh
      rw [hi] at hj
      cases hj
      exact absurd rfl hne
    · rw [adj_comm]; exact h j i _ _ hh hj hi
  · intro h a b x y hab hx hy
    obtain ⟨i, rfl, hi, hpi⟩ := nw_at hx
    obtain ⟨j, rfl, hj, hpj⟩ := nw_at hy
    refine h i j hi hj hpi hpj fun e => ?_
    subst e
    have hasc := List.pairwise_iff_getElem.1 (nw_asc P n)
    obtain ⟨h1, e1⟩ := List.getElem?_eq_some_iff.1 hx
    obtain ⟨h2, e2⟩ := List.getElem?_eq_some_iff.1 hy
    have := hasc a b h1 h2 hab
    omega
set_option maxHeartbeats 4000000 in
set_option maxRecDepth 100000 in
theorem l5Clique_any (s : Int) (v u : Value) (l : List Ed) (xs : List Int) (w : World) (h : Edges w v l) (hl : l.length ≤ 1048576) (hu : Ints w u xs) (hxl : xs.length ≤ 1048576) :
    Calls Try.prog 48 #[.agg #[.int .i64 s, v], u] w fun e w' => e = .returned (.bool (okG (ClqL l xs))) ∧ Below w.heap.size w w' := by
  obtain ⟨A, c, rfl, -⟩ := h.form
  obtain ⟨A2, c2, rfl, hc2⟩ := hu.form
  have H := Lib.hid h
  have HC2 := Lib.hid hc2
  have HB0 : Hid (Below w.heap.size w (w.alloc (.cells #[.int .i64 s, .slice A l.length c] 29))) := (Below.refl _ _).alloc (Nat.le_refl _) _
  have HG0 := Lib.hid (Blk.new w 29 #[.int .i64 s, .slice A l.length c])
  clear h hu hc2
  go_enter Try.func48, Try.ntmps48
  go_wp2_with fail
  go_loopg [5] xs.length (fun g iv wr => ∃ i : Nat, i + g = xs.length ∧ iv = .int .i64 (i : Int) ∧ Hid (ClqA l xs i) ∧ Blk wr w.heap.size 29 #[.int .i64 s, .slice A l.length c] ∧ Below w.heap.size w wr)
  case atStart => exact ⟨0, by omega, rfl, fun a b x y h => by omega, HG0.out, HB0.out⟩
  case round =>
    clear HG0 HB0
    obtain ⟨i, hig, rfl, hcl, hgb, hB⟩ := hrel
    have HG := Lib.hid hgb
    have HB := Lib.hid hB
    cases gk with
    | zero =>
      have HV : Hid (okG (ClqL l xs) = true) := okG_yes (hcl.out.done (by omega))
      obtain rfl : i = xs.length := by omega
      clear hgb hB
      go_wp2_with fail
      go_ret
      rw [HV.out]
      exact ⟨rfl, HB.out⟩
    | succ g2 =>
      have hlt : i < xs.length := by omega
      have hlt' : (i : Int) < (xs.length : Int) := by omega
      obtain ⟨x, hx⟩ : ∃ x, xs[i]? = some x := ⟨_, List.getElem?_eq_getElem hlt⟩
      obtain ⟨g5, o5, rfl, c5⟩ := HC2.out i _ hx
      have HX := Lib.hid hx
      have HI := Lib.hid hcl.out.inner
      have HC5 := Lib.hid c5
      clear hx c5 hgb hB hcl
      go_wp2_with fail
      obtain ⟨wo, hwo⟩ : ∃ wo, wo = wr := ⟨_, rfl⟩
      subst hwo
      go_loopg [6] (xs.length - (i + 1)) (fun g kv wr => ∃ k : Nat, k + g = xs.length ∧ i < k ∧ kv = .int .i64 (k : Int) ∧ Hid (ClqB l xs i k) ∧ Blk wr w.heap.size 29 #[.int .i64 s, .slice A l.length c] ∧ Below w.heap.size w wr)
      case atStart => exact ⟨i + 1, by omega, by omega, by go_num, HI, HG.out, HB.out⟩
      case round =>
        clear HI HG HB
        obtain ⟨k, hkg, hik, rfl, hcl, hgb, hB⟩ := hrel
        obtain ⟨p0, p1, -, -⟩ := hgb.two
        have HG := Lib.hid hgb
        have HB := Lib.hid hB
        cases gk with
        | zero =>
          have HN := Lib.hid (hcl.out.all (by omega))
          obtain rfl : k = xs.length := by omega
          clear hgb hB hcl p0 p1
          obtain ⟨p0, p1, -, -⟩ := HG.out.two
          go_wp2_with fail
          go_roundg g2
          case measure => omega
          case rel => exact ⟨i + 1, by omega, by go_num, HN, HG.out, HB.out⟩
        | succ g4 =>
          have hklt : k < xs.length := by omega
          have hklt' : (k : Int) < (xs.length : Int) := by omega
          obtain ⟨y, hy⟩ : ∃ y, xs[k]? = some y := ⟨_, List.getElem?_eq_getElem hklt⟩
          obtain ⟨_, _, hf, c6⟩ := HC2.out k _ hy
          cases hf
          have q5 := nearv.cell_keep HC5.out hB
          have q6 := nearv.cell_keep c6 hB
          have HNR := Lib.hid (l2Near_any s x y (.slice A l.length c) l wr.drew (H.out.below hB.drew) hl)
          have HIJ : Hid (i < k) := by
            show _ < _
            omega
          cases hj : adj l x y with
          | true =>
            have HN := Lib.hid (hcl.out.next HX.out hy hj)
            rw [hj] at HNR
            clear hy c6 hgb hB hcl hj HIJ
            go_wp2_with fail
            refine wp_region_held_drew (S := (fun w' : World => w'.cell? ⟨w.heap.size, 0, none⟩ = some (.int .i64 s) ∧ w'.cell? ⟨w.heap.size, 1, none⟩ = some (.slice A l.length c) ∧ w'.cell? ⟨g5, o5 + i, none⟩ = some (.int .i64 x) ∧ w'.cell? ⟨g5, o5 + k, none⟩ = some (.int .i64 y))) (by kernel_rfl) (by (try dsimp only); simp [*]) (fun hHeld => ?_)
            change wpAnyH _ _ _ _ _ _ #[false, false, false, false, false, false, false, false, false, false, false] _ _
            refine wpAnyH_take (i := 0) (oi := ⟨some 21, _, _, _, _, _⟩) (v := ?_) rfl (by kernel_rfl) (by kernel_rfl) (by kernel_rfl) (fun _ _ _ h => h) (Or.inl ⟨by rfl, ?_⟩) (by assumption) ?_
            rotate_left
            · (intro w hSw; (try dsimp only at hSw); go_simp; (try (with_reducible rfl)))
            try simp only [Act.put, List.setIfInBounds_toArray, List.set_cons_zero, List.set_cons_succ]
            refine wpAnyH_take (i := 1) (oi := ⟨some 22, _, _, _, _, _⟩) (v := ?_) rfl (by kernel_rfl) (by kernel_rfl) (by kernel_rfl) (fun _ _ _ h => h) (Or.inl ⟨by rfl, ?_⟩) (by assumption) ?_
            rotate_left
            · (intro w hSw; (try dsimp only at hSw); go_simp; (try (with_reducible rfl)))
            try simp only [Act.put, List.setIfInBounds_toArray, List.set_cons_zero, List.set_cons_succ]
            refine wpAnyH_take (i := 2) (oi := ⟨some 23, _, _, _, _, _⟩) (v := ?_) rfl (by kernel_rfl) (by kernel_rfl) (by kernel_rfl) (fun _ _ _ h => h) (Or.inl ⟨by rfl, ?_⟩) (by assumption) ?_
            rotate_left
            · (intro w hSw; (try dsimp only at hSw); go_simp; (try (with_reducible rfl)))
            try simp only [Act.put, List.setIfInBounds_toArray, List.set_cons_zero, List.set_cons_succ]
            refine wpAnyH_take (i := 3) (oi := ⟨some 24, _, _, _, _, _⟩) (v := ?_) rfl (by kernel_rfl) (by kernel_rfl) (by kernel_rfl) (fun _ _ _ h => h) (Or.inl ⟨by rfl, ?_⟩) (by assumption) ?_
            rotate_left
            · (intro w hSw; (try dsimp only at hSw); go_simp; (try (with_reducible rfl)))
            try simp only [Act.put, List.setIfInBounds_toArray, List.set_cons_zero, List.set_cons_succ]
            refine wpAnyH_take (i := 4) (oi := ⟨some 25, _, _, _, _, _⟩) (v := ?_) rfl (by kernel_rfl) (by kernel_rfl) (by kernel_rfl) (fun _ _ _ h => h) (Or.inl ⟨by rfl, ?_⟩) (by assumption) ?_
            rotate_left
            · (intro w hSw; (try dsimp only at hSw); go_simp; (try (with_reducible rfl)))
            try simp only [Act.put, List.setIfInBounds_toArray, List.set_cons_zero, List.set_cons_succ]
            refine wpAnyH_take (i := 5) (oi := ⟨some 26, _, _, _, _, _⟩) (v := ?_) rfl (by kernel_rfl) (by kernel_rfl) (by kernel_rfl) (fun _ _ _ h => h) (Or.inl ⟨by rfl, ?_⟩) (by assumption) ?_
            rotate_left
            · (intro w hSw; (try dsimp only at hSw); go_simp; (try (with_reducible rfl)))
            try simp only [Act.put, List.setIfInBounds_toArray, List.set_cons_zero, List.set_cons_succ]
            refine wpAnyH_take (i := 6) (oi := ⟨some 27, _, _, _, _, _⟩) (v := ?_) rfl (by kernel_rfl) (by kernel_rfl) (by kernel_rfl) (fun _ _ _ h => h) (Or.inl ⟨by rfl, ?_⟩) (by assumption) ?_
            rotate_left
            · (intro w hSw; (try dsimp only at hSw); go_simp; (try (with_reducible rfl)))
            try simp only [Act.put, List.setIfInBounds_toArray, List.set_cons_zero, List.set_cons_succ]
            refine wpAnyH_take (i := 7) (oi := ⟨some 28, _, _, _, _, _⟩) (v := ?_) rfl (by kernel_rfl) (by kernel_rfl) (by kernel_rfl) (fun _ _ _ h => h) (Or.inl ⟨by rfl, ?_⟩) (by assumption) ?_
            rotate_left
            · (intro w hSw; (try dsimp only at hSw); go_simp; (try (with_reducible rfl)))
            try simp only [Act.put, List.setIfInBounds_toArray, List.set_cons_zero, List.set_cons_succ]
            refine wpAnyH_take (i := 8) (oi := ⟨some 29, _, _, _, _, _⟩) (v := ?_) rfl (by kernel_rfl) (by kernel_rfl) (by kernel_rfl) (fun _ _ _ h => h) (Or.inl ⟨by rfl, ?_⟩) (by assumption) ?_
            rotate_left
            · (intro w hSw; (try dsimp only at hSw); go_simp; (try (with_reducible rfl)))
            try simp only [Act.put, List.setIfInBounds_toArray, List.set_cons_zero, List.set_cons_succ]
            refine wpAnyH_ready (rs := [9]) (by kernel_rfl) (by simp) ?_
            refine AllReadyH.cons (o := ⟨some 30, _, _, _, _, _⟩) rfl (fun K hK => ?_) AllReadyH.nil
            go_simp
            refine HNR.out.mono ?_; rintro e w3 ⟨rfl, b3⟩; have d3 : Below wr.heap.size wr w3 := btrans (Below.refl _ _).drew b3; obtain ⟨k0, k1, -, -⟩ := (HG.out.below d3 HG.out.lt).two; have q7 := nearv.cell_keep q5 d3; have q8 := nearv.cell_keep q6 d3
            go_wp2_with fail
            refine hK.out _ _ (by (try dsimp only); simp [*]) (fun hHeld => ?_)
            clear hK K
            try simp only [List.setIfInBounds_toArray, List.set_cons_zero, List.set_cons_succ]
            refine wpAnyH_take (i := 10) (oi := ⟨some 31, _, _, _, _, _⟩) (v := ?_) rfl (by kernel_rfl) (by kernel_rfl) (by kernel_rfl) (fun _ _ _ h => h) (Or.inl ⟨by rfl, ?_⟩) (by assumption) ?_
            rotate_left
            · (intro w hSw; (try dsimp only at hSw); go_simp; (try (with_reducible rfl)))
            try simp only [Act.put, List.setIfInBounds_toArray, List.set_cons_zero, List.set_cons_succ]
            refine wpAnyH_done (by kernel_rfl) ?_ _
            have HG3 := Lib.hid (HG.out.below d3 HG.out.lt)
            have HB3 := Lib.hid (btrans HB.out d3)
            clear b3 d3 k0 k1 q7 q8 q5 q6 p0 p1 hHeld
            go_wp2_with fail
            go_roundg g4
            case measure => omega
            case rel => exact ⟨k + 1, by omega, by omega, by go_num, HN, HG3.out, HB3.out⟩
          | false =>
            have HV : Hid (okG (ClqL l xs) = false) := okG_no fun h_ => by
              have := h_ i k x y HIJ.out HX.out hy
              rw [hj] at this; cases this
            rw [hj] at HNR
            clear hy c6 hgb hB hcl hj HIJ
            go_wp2_with fail
            refine wp_region_held_drew (S := (fun w' : World => w'.cell? ⟨w.heap.size, 0, none⟩ = some (.int .i64 s) ∧ w'.cell? ⟨w.heap.size, 1, none⟩ = some (.slice A l.length c) ∧ w'.cell? ⟨g5, o5 + i, none⟩ = some (.int .i64 x) ∧ w'.cell? ⟨g5, o5 + k, none⟩ = some (.int .i64 y))) (by kernel_rfl) (by (try dsimp only); simp [*]) (fun hHeld => ?_)
            change wpAnyH _ _ _ _ _ _ #[false, false, false, false, false, false, false, false, false, false, false] _ _
            refine wpAnyH_take (i := 0) (oi := ⟨some 21, _, _, _, _, _⟩) (v := ?_) rfl (by kernel_rfl) (by kernel_rfl) (by kernel_rfl) (fun _ _ _ h => h) (Or.inl ⟨by rfl, ?_⟩) (by assumption) ?_
            rotate_left
            · (intro w hSw; (try dsimp only at hSw); go_simp; (try (with_reducible rfl)))
            try simp only [Act.put, List.setIfInBounds_toArray, List.set_cons_zero, List.set_cons_succ]
            refine wpAnyH_take (i := 1) (oi := ⟨some 22, _, _, _, _, _⟩) (v := ?_) rfl (by kernel_rfl) (by kernel_rfl) (by kernel_rfl) (fun _ _ _ h => h) (Or.inl ⟨by rfl, ?_⟩) (by assumption) ?_
            rotate_left
            · (intro w hSw; (try dsimp only at hSw); go_simp; (try (with_reducible rfl)))
            try simp only [Act.put, List.setIfInBounds_toArray, List.set_cons_zero, List.set_cons_succ]
            refine wpAnyH_take (i := 2) (oi := ⟨some 23, _, _, _, _, _⟩) (v := ?_) rfl (by kernel_rfl) (by kernel_rfl) (by kernel_rfl) (fun _ _ _ h => h) (Or.inl ⟨by rfl, ?_⟩) (by assumption) ?_
            rotate_left
            · (intro w hSw; (try dsimp only at hSw); go_simp; (try (with_reducible rfl)))
            try simp only [Act.put, List.setIfInBounds_toArray, List.set_cons_zero, List.set_cons_succ]
            refine wpAnyH_take (i := 3) (oi := ⟨some 24, _, _, _, _, _⟩) (v := ?_) rfl (by kernel_rfl) (by kernel_rfl) (by kernel_rfl) (fun _ _ _ h => h) (Or.inl ⟨by rfl, ?_⟩) (by assumption) ?_
            rotate_left
            · (intro w hSw; (try dsimp only at hSw); go_simp; (try (with_reducible rfl)))
            try simp only [Act.put, List.setIfInBounds_toArray, List.set_cons_zero, List.set_cons_succ]
            refine wpAnyH_take (i := 4) (oi := ⟨some 25, _, _, _, _, _⟩) (v := ?_) rfl (by kernel_rfl) (by kernel_rfl) (by kernel_rfl) (fun _ _ _ h => h) (Or.inl ⟨by rfl, ?_⟩) (by assumption) ?_
            rotate_left
            · (intro w hSw; (try dsimp only at hSw); go_simp; (try (with_reducible rfl)))
            try simp only [Act.put, List.setIfInBounds_toArray, List.set_cons_zero, List.set_cons_succ]
            refine wpAnyH_take (i := 5) (oi := ⟨some 26, _, _, _, _, _⟩) (v := ?_) rfl (by kernel_rfl) (by kernel_rfl) (by kernel_rfl) (fun _ _ _ h => h) (Or.inl ⟨by rfl, ?_⟩) (by assumption) ?_
            rotate_left
            · (intro w hSw; (try dsimp only at hSw); go_simp; (try (with_reducible rfl)))
            try simp only [Act.put, List.setIfInBounds_toArray, List.set_cons_zero, List.set_cons_succ]
            refine wpAnyH_take (i := 6) (oi := ⟨some 27, _, _, _, _, _⟩) (v := ?_) rfl (by kernel_rfl) (by kernel_rfl) (by kernel_rfl) (fun _ _ _ h => h) (Or.inl ⟨by rfl, ?_⟩) (by assumption) ?_
            rotate_left
            · (intro w hSw; (try dsimp only at hSw); go_simp; (try (with_reducible rfl)))
            try simp only [Act.put, List.setIfInBounds_toArray, List.set_cons_zero, List.set_cons_succ]
            refine wpAnyH_take (i := 7) (oi := ⟨some 28, _, _, _, _, _⟩) (v := ?_) rfl (by kernel_rfl) (by kernel_rfl) (by kernel_rfl) (fun _ _ _ h => h) (Or.inl ⟨by rfl, ?_⟩) (by assumption) ?_
            rotate_left
            · (intro w hSw; (try dsimp only at hSw); go_simp; (try (with_reducible rfl)))
            try simp only [Act.put, List.setIfInBounds_toArray, List.set_cons_zero, List.set_cons_succ]
            refine wpAnyH_take (i := 8) (oi := ⟨some 29, _, _, _, _, _⟩) (v := ?_) rfl (by kernel_rfl) (by kernel_rfl) (by kernel_rfl) (fun _ _ _ h => h) (Or.inl ⟨by rfl, ?_⟩) (by assumption) ?_
            rotate_left
            · (intro w hSw; (try dsimp only at hSw); go_simp; (try (with_reducible rfl)))
            try simp only [Act.put, List.setIfInBounds_toArray, List.set_cons_zero, List.set_cons_succ]
            refine wpAnyH_ready (rs := [9]) (by kernel_rfl) (by simp) ?_
            refine AllReadyH.cons (o := ⟨some 30, _, _, _, _, _⟩) rfl (fun K hK => ?_) AllReadyH.nil
            go_simp
            refine HNR.out.mono ?_; rintro e w3 ⟨rfl, b3⟩; have d3 : Below wr.heap.size wr w3 := btrans (Below.refl _ _).drew b3; obtain ⟨k0, k1, -, -⟩ := (HG.out.below d3 HG.out.lt).two; have q7 := nearv.cell_keep q5 d3; have q8 := nearv.cell_keep q6 d3
            go_wp2_with fail
            refine hK.out _ _ (by (try dsimp only); simp [*]) (fun hHeld => ?_)
            clear hK K
            try simp only [List.setIfInBounds_toArray, List.set_cons_zero, List.set_cons_succ]
            refine wpAnyH_take (i := 10) (oi := ⟨some 31, _, _, _, _, _⟩) (v := ?_) rfl (by kernel_rfl) (by kernel_rfl) (by kernel_rfl) (fun _ _ _ h => h) (Or.inl ⟨by rfl, ?_⟩) (by assumption) ?_
            rotate_left
            · (intro w hSw; (try dsimp only at hSw); go_simp; (try (with_reducible rfl)))
            try simp only [Act.put, List.setIfInBounds_toArray, List.set_cons_zero, List.set_cons_succ]
            refine wpAnyH_done (by kernel_rfl) ?_ _
            have HB3 := Lib.hid (btrans HB.out d3)
            clear b3 d3 k0 k1 q7 q8 q5 q6 p0 p1 hHeld
            go_wp2_with fail
            go_ret
            rw [HV.out]
            exact ⟨rfl, HB3.out⟩
/-- the neighbors of a node that are not gone -/
def amgL (n : Nat) (l : List Ed) (gl : List Int) (x : Int) : List Int := nw (fun y => !goneB gl y && adj l x (y : Int)) n
def amgK (n : Nat) (l : List Ed) (gl : List Int) (x : Int) (k : Nat) : List Int := ((nw (fun y => adj l x (y : Int)) n).take k).filter fun y => !decide (y ∈ gl)
theorem amgK_len (n : Nat) (l : List Ed) (gl : List Int) (x : Int) (k : Nat) : (amgK n l gl x k).length ≤ n := by
  unfold amgK
  have h1 := List.length_filter_le (fun y => !decide (y ∈ gl)) ((nw (fun y => adj l x (y : Int)) n).take k)
  have h2 : ((nw (fun y => adj l x (y : Int)) n).take k).length ≤ (nw (fun y => adj l x (y : Int)) n).length := by rw [List.length_take]; omega
  have h3 := nw_len (fun y => adj l x (y : Int)) n
  omega
theorem amgK_yes {n : Nat} {l : List Ed} {gl : List Int} {x y : Int} {k : Nat} (hy : (nw (fun y => adj l x (y : Int)) n)[k]? = some y) (hg : decide (y ∈ gl) = false) : amgK n l gl x (k + 1) = amgK n l gl x k ++ [y] := by
  unfold amgK
  rw [List.take_add_one, hy, List.filter_append]
  simp only [Option.toList, List.filter_cons, List.filter_nil, hg]
  rfl
theorem amgK_no {n : Nat} {l : List Ed} {gl : List Int} {x y : Int} {k : Nat} (hy : (nw (fun y => adj l x (y : Int)) n)[k]? = some y) (hg : decide (y ∈ gl) = true) : amgK n l gl x (k + 1) = amgK n l gl x k := by
  unfold amgK
  rw [List.take_add_one, hy, List.filter_append]
  simp only [Option.toList, List.filter_cons, List.filter_nil, hg]
  simp
theorem amgK_all {n : Nat} {l : List Ed} {gl : List Int} {x : Int} : amgK n l gl x (nw (fun y => adj l x (y : Int)) n).length = amgL n l gl x := by
  unfold amgK amgL
  rw [List.take_length, nwf]
  exact reach.nw_congr fun z _ => Bool.and_comm _ _
set_option maxHeartbeats 4000000 in
set_option maxRecDepth 100000 in
theorem l5Among_any (n : Nat) (x : Int) (v u : Value) (l : List Ed) (gl : List Int) (w : World) (h : Edges w v l) (hl : l.length ≤ 1048576) (hu : Ints w u gl) (hgl : gl.length ≤ 1048576) (hn : n ≤ 8) :
    Calls Try.prog 60 #[.agg #[.int .i64 (n : Int), v], u, .int .i64 x] w (RowI w (amgL n l gl x)) := by
  obtain ⟨i0, hi, hz0, hz1, hz2⟩ := info_parts infoInt
  obtain ⟨A, c, rfl, -⟩ := h.form
  have HU := Lib.hid hu
  have b0 : Below w.heap.size w ((w.alloc (.cells #[.int .i64 (n : Int), .slice A l.length c] 29)).alloc (.cells #[] 3)) := ((Below.refl _ _).alloc (Nat.le_refl _) _).alloc (by simp) _
  have HB0 := Lib.hid b0
  have g0 := (Blk.new w 29 #[.int .i64 (n : Int), .slice A l.length c]).alloc (.cells #[] 3)
  obtain ⟨p0, p1, -, -⟩ := g0.two
  have o0 := own_new0 (w.alloc (.cells #[.int .i64 (n : Int), .slice A l.length c] 29)) 3 1
  rw [World.size_alloc] at o0
  have HO0 := Lib.hid o0
  have HNB := Lib.hid (neigh.l2Neighbors_any n x (.slice A l.length c) l _ (h.below b0) hl hn)
  have HAL := Lib.hid (amgK_all (n := n) (l := l) (gl := gl) (x := x))
  clear h hu b0 g0 o0
  go_enter Try.func60, Try.ntmps60
  go_wp2_with fail
  refine HNB.out.mono ?_
  rintro e w3 ⟨A5, c5, rfl, o5, b5⟩
  have HB3 := Lib.hid (btrans HB0.out b5)
  have HO3 : Hid (w3.ownsRow w.heap.size 3 1 (.slice (some ⟨w.heap.size + 1, 0, none⟩) 0 0) (amgK n l gl x 0).length (cellsI (amgK n l gl x 0))) := own_base (own_below HO0.out b5) (by omega)
  have HR3 := Lib.hid (own_base (B' := w.heap.size) o5 HB0.out.size)
  have HAP : Hid (∀ k, (Value.slice (some ⟨w.heap.size + 1, 0, none⟩) 0 0).ownBlock = some k → (Value.slice A5 (nw (fun y => adj l x (y : Int)) n).length c5).ownBlock ≠ some k) := fun q hq hq' => by
    have h1 := (HO0.out.lt q hq).2
    have h2 := (o5.lt q hq').1
    omega
  have HAT := Lib.hid (fun (k : Nat) (y : Int) (hk : (nw (fun y => adj l x (y : Int)) n)[k]? = some y) => amgK_yes (gl := gl) hk)
  have HAN := Lib.hid (fun (k : Nat) (y : Int) (hk : (nw (fun y => adj l x (y : Int)) n)[k]? = some y) => amgK_no (gl := gl) hk)
  have HNL := nw_len (fun y => adj l x (y : Int)) n
  clear o5 b5 p0 p1 HB0 HO0 HNB
  generalize nw (fun y => adj l x (y : Int)) n = N1 at *
  go_wp2_with fail
  go_loopg [7, 9] N1.length (fun g ov iv wr => ∃ (k : Nat) (ow : Value), ow = ov ∧ k + g = N1.length ∧ iv = .int .i64 (k : Int) ∧ wr.ownsRow w.heap.size 3 1 ow (amgK n l gl x k).length (cellsI (amgK n l gl x k)) ∧ wr.ownsRow w.heap.size 3 1 (.slice A5 N1.length c5) N1.length (cellsI N1) ∧ Hid (∀ k, ow.ownBlock = some k → (Value.slice A5 N1.length c5).ownBlock ≠ some k) ∧ Below w.heap.size w wr)
  case atStart => exact ⟨0, _, rfl, by omega, rfl, HO3.out, HR3.out, HAP, HB3.out⟩
  case round =>
    clear HO3 HR3 HAP HB3
    obtain ⟨k, ow, rfl, hkg, rfl, hrow, hr5, hap, hB⟩ := hrel
    obtain ⟨A4, c4, rfl⟩ := own_form hrow
    have hml := amgK_len n l gl x k
    have hsz := hB.size
    cases gk with
    | zero =>
      obtain rfl : k = N1.length := by omega
      rw [HAL.out] at hrow
      have HR := Lib.hid hrow
      have HB := Lib.hid hB
      have HEQ := Lib.hid HAL.out
      clear hrow hB hr5 hap
      go_wp2_with fail
      go_ret
      rw [HEQ.out]
      exact ⟨A4, c4, rfl, HR.out, HB.out⟩
    | succ g2 =>
      have hlt : k < N1.length := by omega
      have hlt' : (k : Int) < (N1.length : Int) := by omega
      obtain ⟨y, hy⟩ : ∃ y, N1[k]? = some y := ⟨_, List.getElem?_eq_getElem hlt⟩
      obtain ⟨_, _, hf, hcc⟩ := (show Ints wr (.slice A5 N1.length c5) N1 from Reads.of_own hr5).form
      cases hf
      obtain ⟨g9, o9, rfl, q9⟩ := hcc k _ hy
      have HH := Lib.hid (l1Has_any u gl y wr (HU.out.below hB) hgl)
      have HB := Lib.hid hB
      have HR5 := Lib.hid hr5
      cases hd : decide (y ∈ gl) with
      | true =>
        have HN := Lib.hid (HAN.out k y hy hd)
        rw [hd] at HH
        have HR := Lib.hid hrow
        clear hd hy hcc hB hrow hr5
        go_wp2_with fail
        refine HH.out.mono ?_
        rintro e w' ⟨rfl, rfl⟩
        go_wp2_with fail
        go_roundg g2
        case measure => omega
        case rel => exact ⟨k + 1, _, rfl, by omega, by go_num, by rw [HN.out]; exact HR.out, HR5.out, hap, HB.out⟩
      | false =>
        have HN := Lib.hid (HAT.out k y hy hd)
        rw [hd] at HH
        clear hd hy hcc hB hr5
        generalize amgK n l gl x k = m at *
        go_wp2_with fail
        refine HH.out.mono ?_
        rintro e w' ⟨rfl, rfl⟩
        go_wp2_with (at_builtin; refine wpList_append_own_at _ rfl _ _ 26 rfl (w.heap.size) 3 i0 (.int .i64 0) 1 8 Try.underlying26 hi hz0 hz1 hz2 rfl (by decide) _ _ _ rfl (hrow.alloc _) ⟨wr.heap.size, 0, none⟩ 1 1 [.int .i64 (y)] rfl rfl (cell_one_new _ _ _) (fun x hx => by simp at hx; subst hx; rfl) (by unfold maxLen; omega) (by omega) (by simp; omega) ?_; intro v2 w2 hown2 hgrow2 _ hl2)
        have hr6 := Lib.hid ((HR5.out.alloc (.cells #[.int .i64 y] 3)).kept hgrow2 (bags.apart_or hap.out))
        have hap6 : Hid (∀ k, v2.ownBlock = some k → (Value.slice (some ⟨g9, o9, none⟩) N1.length c5).ownBlock ≠ some k) := bags.apart_grow hap.out hl2 (fun q hq => by have := (HR5.out.lt q hq).2; simp; omega)
        obtain ⟨hown3, hB2⟩ := push1 hrow hown2 hgrow2 hsz
        have HO9 := Lib.hid hown3
        have HB9 := Lib.hid (HB.out.trans hB2)
        clear hgrow2 hrow hown2 hown3 hB2 q9 hl2
        go_roundg g2
        case measure => omega
        case rel => exact ⟨k + 1, _, rfl, by omega, by go_num, by rw [HN.out]; exact HO9.out, hr6.out, hap6, HB9.out⟩
end Go.Proofs.Ytbbgbepemnmfdaa.costs

/- DegeneracyOf: the contract of the model's function. -/
namespace Go.Proofs.Ytbbgbepemnmfdaa.ups
open Go.RowKit P2 words edges ints good adjs fns gws sets rets covs bags bitsI func costs inds
set_option linter.unusedVariables false

theorem deg_in {n : Nat} {l : List Ed} {c x : Nat} (hg : P2.Good (n : Int) l) (hn : n ≤ 8) (hc : c < 2 ^ n) (hx : c.testBit x = true) (hxn : x < n) : ((nw (fun y => bitB c y && adj l (x : Int) (y : Int)) n).length : Int) = dgN l c x := by
  have h1 := ones_num (fun y => bitB c y && adj l (x : Int) (y : Int)) hn
  have h2 : (numOf (fun y => bitB c y && adj l (x : Int) (y : Int)) n).testBit x = false := by rw [numOf_bit, adj_self hg]; simp
  have h3 := ones_put (numOf_lt (fun y => bitB c y && adj l (x : Int) (y : Int)) hn) (show x < 8 by omega) h2
  have h4 : cloB l x &&& c = numOf (fun y => bitB c y && adj l (x : Int) (y : Int)) n ||| 2 ^ x := by
    apply Nat.eq_of_testBit_eq
    intro i
    rw [Nat.testBit_and, cloB_bit hg, put_bit, numOf_bit]
    unfold bitB
    by_cases hi : i < n
    · by_cases e : x = i
      · subst e; simp [hx]
      · have : (x == i) = false := by simpa using e
        rw [this, Bool.false_or, decide_eq_true hi, Bool.true_and, decide_eq_false e, Bool.or_false, Bool.and_comm]
    · have hb : c.testBit i = false := Nat.testBit_lt_two_pow (Nat.lt_of_lt_of_le hc (Nat.pow_le_pow_right (by decide) (by omega)))
      rw [hb, Bool.and_false, decide_eq_false hi, Bool.false_and, Bool.false_or, decide_eq_false (by omega)]
  unfold dgN
  rw [h4, h3, h1]
  omega
theorem adj_gw_self (n : Nat) (J : Nat → Nat → Bool) (i : Nat) : adj (gw n J) (i : Int) (i : Int) = false := by
  cases h : adj (gw n J) (i : Int) (i : Int) with
  | false => rfl
  | true =>
    exfalso
    unfold adj at h
    rw [decide_eq_true_iff] at h
    rcases h with h | h
    all_goals
      obtain ⟨a, b, h1, _, _, h4⟩ := mem_gw.1 h
      have h5 := congrArg Prod.fst h4
      have h6 := congrArg Prod.snd h4
      simp only at h5 h6
      omega
theorem ind_deg {n : Nat} {l : List Ed} {c i x : Nat} (hg : P2.Good (n : Int) l) (hn : n ≤ 8) (hc : c < 2 ^ n) (hx : (nw (bitB c) n)[i]? = some (x : Int)) :
    ((amgL (nw (bitB c) n).length (indL l (nw (bitB c) n)) [] (i : Int)).length : Int) = dgN l c x := by
  have hi := (List.getElem?_eq_some_iff.1 hx).1
  obtain ⟨z, hz, hb, e⟩ := mem_nw.1 (List.mem_of_getElem? hx)
  have : x = z := by omega
  subst this
  rw [← deg_in hg hn hc hb hz]
  congr 1
  unfold amgL indL
  have h1 : nw (fun y => !goneB [] y && adj (gw (nw (bitB c) n).length (indJ l (nw (bitB c) n))) (i : Int) (y : Int)) (nw (bitB c) n).length = nw (fun y => adj l (x : Int) ((nw (bitB c) n).getD y 0)) (nw (bitB c) n).length := by
    refine covs.nw_congr fun y hy => ?_
    have h2 : goneB [] y = false := by unfold goneB; simp
    rw [h2]
    show (true && _) = _
    rw [Bool.true_and]
    have hxi : (nw (bitB c) n).getD i 0 = (x : Int) := getD_at hx
    rcases Nat.lt_trichotomy i y with h | h | h
    · rw [adj_gw h hy]; unfold indJ; rw [hxi]
    · subst h; rw [adj_gw_self, hxi, adj_self hg]
    · rw [adj_comm, adj_gw h hi]; unfold indJ; rw [hxi, adj_comm]
  rw [h1]
  have h3 : nw (bitB c) n = (List.range (nw (bitB c) n).length).map fun y => (nw (bitB c) n).getD y 0 := by
    apply List.ext_getElem?
    intro j
    by_cases hj : j < (nw (bitB c) n).length
    · rw [List.getElem?_eq_getElem hj]; simp [hj, List.getD_eq_getElem?_getD]
    · rw [List.getElem?_eq_none (by omega), List.getElem?_eq_none (by simp; omega)]
  have h4 : ((nw (bitB c) n).filter fun y => adj l (x : Int) y).length = (nw (fun y => adj l (x : Int) ((nw (bitB c) n).getD y 0)) (nw (bitB c) n).length).length := by
    conv => lhs; rw [h3]
    rw [List.filter_map, List.length_map]
    generalize nw (bitB c) n = Q
    unfold nw
    rw [List.length_map]
    rfl
  rw [← h4, nwf]
theorem ind_good (l : List Ed) (xs : List Int) (hx : xs.length ≤ 8) : (indL l xs).length ≤ 1048576   := nearv.gw_len _ hx
set_option maxHeartbeats 4000000 in
set_option maxRecDepth 100000 in
theorem specDgy_any (s : Int) (v : Value) (l : List Ed) (w : World) (h : Edges w v l) (hl : l.length ≤ 1048576) (hs1 : -9223372036854775808 ≤ s) (hs2 : s ≤ 9223372036854775807) :
    Calls Try.prog 22 #[.agg #[.int .i64 s, v]] w fun e w' => e = .returned (.tuple #[.int .i64 (dgyV s l), .bool (goodB s l)]) ∧ Below w.heap.size w w' := by
  obtain ⟨A, c, rfl, -⟩ := h.form
  have H := Lib.hid h
  have b0 : Below w.heap.size w (w.alloc (.cells #[.int .i64 s, .slice A l.length c] 29)) := (Below.refl _ _).alloc (Nat.le_refl _) _
  have g0 := Blk.new w 29 #[.int .i64 s, .slice A l.length c]
  obtain ⟨p0, p1, -, -⟩ := g0.two
  have HG := Lib.hid (l2Good_any s _ l _ (h.below b0) hl hs1 hs2)
  have HB0 := Lib.hid b0
  have HG0 := Lib.hid g0
  clear h b0 g0
  by_cases hgd : P2.Good s l
  · rw [goodB_yes hgd] at HG ⊢
    have h0 := hgd.1
    have h8 := hgd.2.1
    obtain ⟨n, rfl⟩ : ∃ n : Nat, s = (n : Int) := ⟨s.toNat, by omega⟩
    have hn : n ≤ 8 := by omega
    have HV : Hid (dgyV (n : Int) l = dgyN l n) := by show _ = _; unfold dgyV; rw [szG_yes hgd, Int.toNat_natCast]
    have HOK := Lib.hid hgd
    clear hgd
    have HPW := Lib.hid (pow_le hn)
    have HP1 : Hid (1 ≤ 2 ^ n) := Nat.one_le_two_pow
    have HIS : Hid (∀ v, GrS l n (fun c => 1 ≤ c ∧ c < 2 ^ n) v → dgyN l n = v) := fun v h => dgyN_is h
    have HND : Hid (∀ c, c < 2 ^ n → nw (bitB c) n = ndN c) := fun c hc => nd_bits hn hc
    have HID := Lib.hid (fun (c i x : Nat) (hc : c < 2 ^ n) (hx : (nw (bitB c) n)[i]? = some (x : Int)) => ind_deg HOK.out hn hc hx)
    have HG00 : Hid (GrS l n (fun c => 1 ≤ c ∧ c < 1) (-1)) := ⟨.inl rfl, Int.le_refl _, fun c hc => by omega⟩
    have hsh : IntKind.i64.wrap ((2 : Int) ^ n) = ((2 ^ n : Nat) : Int) := by
      have hpn := pow_le hn
      rw [show ((2 : Int) ^ n) = ((2 ^ n : Nat) : Int) from by simp]
      generalize 2 ^ n = z at *
      exact Go.IntWalk.i64_in _ (by omega)
    have hN256 := HPW.out
    have hN1 := HP1.out
    generalize hNN : 2 ^ n = N at *
    clear hNN
    go_enter Try.func22, Try.ntmps22
    go_wp2_with fail
    refine HG.out.mono ?_
    rintro e w1 ⟨rfl, b1⟩
    have HE1 := Lib.hid (btrans HB0.out b1)
    have HG1 := Lib.hid (HG0.out.below b1 HG0.out.lt)
    clear p0 p1 b1 HG HB0 HG0
    go_wp2_with fail
    go_loopg [4, 5] (N - 1) (fun g Gv kv wr => ∃ (k : Nat) (G : Int), k + g = N ∧ Gv = .int .i64 G ∧ kv = .int .i64 (k : Int) ∧ Hid (1 ≤ k) ∧ Hid (GrS l n (fun c => 1 ≤ c ∧ c < k) G) ∧ Blk wr w.heap.size 29 #[.int .i64 (n : Int), .slice A l.length c] ∧ Below w.heap.size w wr)
    case atStart => exact ⟨1, -1, by omega, rfl, rfl, Nat.le_refl _, HG00, HG1.out, HE1.out⟩
    case round =>
      clear HG00 HG1 HE1
      obtain ⟨k, G, hkg, rfl, rfl, hk1, hgr, hgb, hB⟩ := hrel
      obtain ⟨p0, p1, -, -⟩ := hgb.two
      have HG := Lib.hid hgb
      have HB := Lib.hid hB
      clear hgb hB
      cases gk with
      | zero =>
        obtain rfl : k = N := by omega
        have HVV := Lib.hid (HIS.out G hgr.out)
        go_wp2_with fail
        go_ret2
        rw [HV.out, HVV.out]
        exact ⟨rfl, HB.out⟩
      | succ g2 =>
        have hkN : k < N := by omega
        have hkN' : (k : Int) < (N : Int) := by omega
        have HBI := Lib.hid (l2Bits_any n k wr hn (by omega))
        have HNK := Lib.hid (HND.out k hkN)
        have hkl := nw_len (bitB k) n
        have HNX : Hid (GrS l n (fun c => 1 ≤ c ∧ c < k + 1) (max G (dgF l n k))) := hgr.out.next fun x => by
          have := hk1.out
          constructor
          · intro h; omega
          · rintro (h | rfl)
            · omega
            · omega
        have HSUC := Lib.hid (fun (j x : Nat) (h : (ndN k)[j]? = some (x : Int)) => dgK_succ (l := l) (n := n) h)
        rw [← HNK.out] at HSUC
        have HDF : Hid (dgF l n k = dgK l n k (nw (bitB k) n).length) := by show _ = _; rw [HNK.out]; rfl
        have HII := Lib.hid (fun (i x : Nat) (hx : (nw (bitB k) n)[i]? = some (x : Int)) => HID.out k i x hkN hx)
        have HMM : Hid (∀ j y, (nw (bitB k) n)[j]? = some y → ∃ x : Nat, y = (x : Int)) := fun j y hy => by
          obtain ⟨x, _, _, rfl⟩ := mem_nw.1 (List.mem_of_getElem? hy)
          exact ⟨x, rfl⟩
        have HKL := Lib.hid (fun j => dgK_le (l := l) (n := n) (c := k) hn j)
        clear hgr HNK
        generalize nw (bitB k) n = M at *
        go_wp2_with fail
        refine HBI.out.mono ?_
        rintro e w3 ⟨A5, c5, rfl, o5, b5⟩
        have HB3 := Lib.hid (btrans HB.out b5)
        have HG3 := Lib.hid (HG.out.below b5 HG.out.lt)
        have HI3 : Hid (Ints w3 (.slice A5 M.length c5) M) := Reads.of_own o5
        clear p0 p1 b5 o5
        obtain ⟨p0, p1, -, -⟩ := HG3.out.two
        go_wp2_with fail
        obtain ⟨wo, hwo⟩ : ∃ wo, wo = wr := ⟨_, rfl⟩
        clear p0 p1
        go_loopg [7, 8] M.length (fun g fv jv wr => ∃ (j : Nat), j + g = M.length ∧ fv = .int .i64 (dgK l n k j) ∧ jv = .int .i64 (j : Int) ∧ Blk wr w.heap.size 29 #[.int .i64 (n : Int), .slice A l.length c] ∧ Below w3.heap.size w3 wr)
        case atStart => exact ⟨0, by omega, rfl, rfl, HG3.out, Below.refl _ _⟩
        case round =>
          clear HG3
          obtain ⟨j, hjg, rfl, rfl, hgb, hB⟩ := hrel
          obtain ⟨p0, p1, -, -⟩ := hgb.two
          have HG7 := Lib.hid hgb
          have HB7 := Lib.hid hB
          clear hgb
          cases gk with
          | zero =>
            obtain rfl : j = M.length := by omega
            have HB8 := Lib.hid (HB3.out.trans (hB.mono HB3.out.size))
            have HMA := Lib.hid (fun (W : World) => minmax.l1Most_any G (dgK l n k M.length) W)
            rw [HDF.out] at HNX
            have hk2 := hk1.out
            clear hB
            go_wp2_with fail
            refine (HMA.out _).mono ?_
            rintro e w' ⟨rfl, rfl⟩
            go_wp2_with fail
            go_roundg g2
            case measure => omega
            case rel => exact ⟨k + 1, _, by omega, rfl, by go_num, Nat.le_succ_of_le hk2, HNX, HG7.out, HB8.out⟩
          | succ g3 =>
            have hjl : j < M.length := by omega
            have hjl' : (j : Int) < (M.length : Int) := by omega
            obtain ⟨y, hy⟩ : ∃ y, M[j]? = some y := ⟨_, List.getElem?_eq_getElem hjl⟩
            obtain ⟨x, rfl⟩ := HMM.out j y hy
            have HS1 := Lib.hid (HSUC.out j x hy)
            have HDG := Lib.hid (HII.out j x hy)
            have HIN := Lib.hid (l2Ind_any (n : Int) (.slice A l.length c) (.slice A5 M.length c5) l M wr (H.out.below (HB3.out.trans (hB.mono HB3.out.size))) hl (HI3.out.below hB) (by omega))
            have hkl2 := HKL.out j
            clear hy hB
            go_wp2_with fail
            refine HIN.out.mono ?_
            rintro e w5 ⟨A6, c6, rfl, o6, b6⟩
            have HB8 := Lib.hid (HB7.out.trans (b6.mono HB7.out.size))
            have HG8 := Lib.hid (HG7.out.below b6 HG7.out.lt)
            have ba : Below w5.heap.size w5 (w5.alloc (.cells #[] 3)) := (Below.refl _ _).alloc (Nat.le_refl _) _
            have hE6 : Edges (w5.alloc (.cells #[] 3)) (.slice A6 (indL l M).length c6) (indL l M) := Reads.below (Reads.of_own o6) ba
            have hgl : Ints (w5.alloc (.cells #[] 3)) (.slice (some ⟨w5.heap.size, 0, none⟩) 0 0) [] := Reads.of_own (own_new0 w5 3 1)
            have HAM := Lib.hid (l5Among_any M.length (j : Int) (.slice A6 (indL l M).length c6) (.slice (some ⟨w5.heap.size, 0, none⟩) 0 0) (indL l M) [] (w5.alloc (.cells #[] 3)) hE6 (ind_good l M (by omega)) hgl (by simp) (by omega))
            have HBA := Lib.hid ba
            clear o6 b6 p0 p1 hE6 hgl ba
            have hal : (amgL M.length (indL l M) [] (j : Int)).length ≤ M.length := nw_len _ _
            generalize amgL M.length (indL l M) [] (j : Int) = am at *
            go_wp2_with fail
            refine HAM.out.mono ?_
            rintro e w6 ⟨A7, c7, rfl, o7, b7⟩
            have d7 := btrans HBA.out b7
            have HB9 := Lib.hid (HB8.out.trans (d7.mono HB8.out.size))
            have HG9 := Lib.hid (HG8.out.below d7 HG8.out.lt)
            have HMI := Lib.hid (fun (W : World) => minmax.l1Least_any (dgK l n k j) (am.length : Int) W)
            clear o7 b7 d7
            go_wp2_with fail
            refine (HMI.out _).mono ?_
            rintro e w' ⟨rfl, rfl⟩
            go_wp2_with fail
            go_roundg g3
            case measure => omega
            case rel => exact ⟨j + 1, by omega, by rw [HS1.out, HDG.out], by go_num, HG9.out, HB9.out⟩
  · rw [goodB_no hgd] at HG ⊢
    have HV : Hid (dgyV s l = 0) := szG_no hgd _
    clear hgd
    go_enter Try.func22, Try.ntmps22
    go_wp2_with fail
    refine HG.out.mono ?_
    rintro e w1 ⟨rfl, b1⟩
    have HE1 := Lib.hid (btrans HB0.out b1)
    clear p0 p1 b1
    go_wp2_with fail
    go_ret2
    rw [HV.out]
    exact ⟨rfl, HE1.out⟩
end Go.Proofs.Ytbbgbepemnmfdaa.ups

/- FnExactDegeneracyOf returns true for every Graph: the program's DegeneracyOf and the model's return the same and write into nothing that was there. No conditions. -/
namespace Go.Proofs.Ytbbgbepemnmfdaa.exDgy
open Go.ChangeShapes Go.WideShapes Go.ChangeAt Go.RowKit P2 words edges ints owns good adjs fns rets sets bags ups _root_.Go.Proofs.Ytbbgbepemnmfdaa.opens
set_option linter.unusedVariables false

set_option maxHeartbeats 4000000 in
set_option maxRecDepth 100000 in
theorem core (s0 : Int) (A0 : Option Addr) (c0 : Nat) (l0 : List Ed) (w : World) (h0 : Edges w (.slice A0 l0.length c0) l0) (hl0 : l0.length ≤ 1048576)
    (HS : Hid (∀ (B0 : Option Addr) (d0 : Nat) (W : World), Edges W (.slice B0 l0.length d0) l0 → Calls Try.prog 22 #[.agg #[.int .i64 s0, .slice B0 l0.length d0]] W fun e W' => e = .returned (.tuple #[.int .i64 (dgyV s0 l0), .bool (goodB s0 l0)]) ∧ Below W.heap.size W W'))
    (HI : Hid (∀ (B0 : Option Addr) (d0 : Nat) (W : World), Edges W (.slice B0 l0.length d0) l0 → Calls Try.prog 23 #[.agg #[.int .i64 s0, .slice B0 l0.length d0]] W fun e W' => e = .returned (.tuple #[.int .i64 (dgyV s0 l0), .bool (goodB s0 l0)]) ∧ Below W.heap.size W W')) :
    Calls Try.prog 4 #[.agg #[.int .i64 s0, .slice A0 l0.length c0]] w fun e w' => e = .returned (.bool true) ∧ Below w.heap.size w w' := by
  have H0 := Lib.hid h0
  have b0_0 : Below w.heap.size w (w.alloc (.cells #[.int .i64 s0, .slice A0 l0.length c0] 24)) := (Below.refl _ _).alloc (Nat.le_refl _) _
  have e0_0 : Below w.heap.size w (w.alloc (.cells #[.int .i64 s0, .slice A0 l0.length c0] 24)) := b0_0
  have g0 := Blk.new w 24 #[.int .i64 s0, .slice A0 l0.length c0]
  have z0_0 := Lib.hid b0_0.size
  have yag := Lib.hid g0.lt
  have hself : ∀ b : Bool, (b != b) = false := fun b => by simp
  have hselfi : ∀ b : Int, (b != b) = false := fun b => by simp
  clear h0
  go_enter Try.func4, Try.ntmps4
  have hz0 : ((l0.length : Nat) : Int) ≤ 1048576 := by omega
  obtain ⟨pag0, pag1, -, -⟩ := g0.two
  go_wp2_with fail
  refine (szGraph_yes s0 (.slice A0 l0.length c0) l0 (1048576) (w.alloc (.cells #[.int .i64 s0, .slice A0 l0.length c0] 24)) (H0.out.below e0_0) (by omega) (by omega)).mono ?_
  rintro e w2 ⟨rfl, bw2⟩
  clear pag0 pag1
  have e0 := btrans e0_0 bw2
  have z0 := Lib.hid bw2.size
  replace g0 := g0.below bw2 g0.lt
  clear bw2
  obtain ⟨pag0, pag1, -, -⟩ := g0.two
  go_wp2_with fail
  refine (toGraph_any s0 (.slice A0 l0.length c0) l0 w2 (H0.out.below e0) hl0).mono ?_
  rintro e w3 ⟨Apg, cpg, rfl, opg, bw3⟩
  clear pag0 pag1
  have e1 := btrans e0 bw3
  have z1 := Lib.hid bw3.size
  replace g0 := g0.below bw3 g0.lt
  clear bw3 e0
  have opg_ := OwnR.new opg
  clear opg
  go_wp2_with fail
  refine (HS.out Apg cpg w3 opg_.reads).mono ?_
  rintro e w4 ⟨rfl, bw4⟩
  have e2 := btrans e1 bw4
  have z2 := Lib.hid bw4.size
  replace g0 := g0.below bw4 g0.lt
  replace opg_ := opg_.below bw4
  clear bw4 e1
  obtain ⟨pag0, pag1, -, -⟩ := g0.two
  go_wp2_with fail
  refine (toGraph_any s0 (.slice A0 l0.length c0) l0 w4 (H0.out.below e2) hl0).mono ?_
  rintro e w5 ⟨Axg, cxg, rfl, oxg, bw5⟩
  clear pag0 pag1
  have e3 := btrans e2 bw5
  have z3 := Lib.hid bw5.size
  replace g0 := g0.below bw5 g0.lt
  clear bw5 e2
  have oxg_ := OwnR.new oxg
  clear oxg
  have bxxg : Below w5.heap.size w5 (w5.alloc (.cells #[.int .i64 s0, .slice Axg l0.length cxg] 29)) := (Below.refl _ _).alloc (Nat.le_refl _) _
  have gxg := Blk.new w5 29 #[.int .i64 s0, .slice Axg l0.length cxg]
  have e4 := btrans e3 bxxg
  have z4 := Lib.hid bxxg.size
  replace g0 := g0.below bxxg g0.lt
  replace oxg_ := oxg_.below bxxg
  clear bxxg e3
  have yxg := Lib.hid gxg.lt
  obtain ⟨pxg0, pxg1, -, -⟩ := gxg.two
  go_wp2_with fail
  refine (HI.out Axg cxg (w5.alloc (.cells #[.int .i64 s0, .slice Axg l0.length cxg] 29)) oxg_.reads).mono ?_
  rintro e w6 ⟨rfl, bw6⟩
  clear pxg0 pxg1
  have e5 := btrans e4 bw6
  have z5 := Lib.hid bw6.size
  replace g0 := g0.below bw6 g0.lt
  replace gxg := gxg.below bw6 gxg.lt
  replace oxg_ := oxg_.below bw6
  clear bw6 e4
  obtain ⟨pag0, pag1, -, -⟩ := g0.two
  obtain ⟨pxg0, pxg1, -, -⟩ := gxg.two
  have HA := Lib.hid (H0.out.below e5)
  have HX := Lib.hid (oxg_.reads)
  go_wp2_with fail
  go_region_held3 (fun w' => w'.cell? ⟨w.heap.size, 0, none⟩ = some (.int .i64 s0) ∧ w'.cell? ⟨w.heap.size, 1, none⟩ = some (.slice A0 l0.length c0) ∧ w'.cell? ⟨w5.heap.size, 0, none⟩ = some (.int .i64 s0) ∧ w'.cell? ⟨w5.heap.size, 1, none⟩ = some (.slice Axg l0.length cxg)) (go_keep)
    (first | (go_at_call 15; refine (toGraph_k s0 (.slice A0 l0.length c0) l0 w6.drew HA.out hl0 (p := ⟨w.heap.size, 0, none⟩) (q := ⟨w.heap.size, 1, none⟩) (r := ⟨w5.heap.size, 0, none⟩) (t := ⟨w5.heap.size, 1, none⟩) (a := .int .i64 s0) (b := .slice A0 l0.length c0) (c := .int .i64 s0) (d := .slice Axg l0.length cxg) ?_ ?_ ?_ ?_).mono ?_; (simp [*]); (simp [*]); (simp [*]); (simp [*]); rintro e w7 ⟨⟨Ay, cy, rfl, oy⟩, k0, k1, k2, k3, bw7⟩)
           | (go_at_call 18; refine (eqGraph_k s0 _ _ l0 _ (Reads.below (w := w6.drew) HX.out bw7) (Reads.of_own oy) hl0 (p := ⟨w.heap.size, 0, none⟩) (q := ⟨w.heap.size, 1, none⟩) (r := ⟨w5.heap.size, 0, none⟩) (t := ⟨w5.heap.size, 1, none⟩) (a := .int .i64 s0) (b := .slice A0 l0.length c0) (c := .int .i64 s0) (d := .slice Axg l0.length cxg) ?_ ?_ ?_ ?_).mono ?_; (simp [*]); (simp [*]); (simp [*]); (simp [*]); rintro e w8 ⟨rfl, m0, m1, m2, m3, bw8⟩))
  clear k0 k1 k2 k3 m0 m1 m2 m3 HA HX oy
  clear pag0 pag1 pxg0 pxg1
  have cw7 : Below w6.heap.size w6 w7 := (Below.refl _ _).drew.trans bw7
  clear bw7
  have e6 := btrans e5 cw7
  have z6 := Lib.hid cw7.size
  replace g0 := g0.below cw7 g0.lt
  replace gxg := gxg.below cw7 gxg.lt
  replace oxg_ := oxg_.below cw7
  clear cw7 e5
  have e7 := btrans e6 bw8
  have z7 := Lib.hid bw8.size
  replace g0 := g0.below bw8 g0.lt
  replace gxg := gxg.below bw8 gxg.lt
  replace oxg_ := oxg_.below bw8
  clear bw8 e6
  go_wp2_with fail
  go_ret
  exact ⟨rfl, e7⟩

set_option maxHeartbeats 1000000 in
set_option maxRecDepth 100000 in
theorem walk (s0 : Int) (u0 : Value) (l0 : List Ed) (w : World) (w0 : IsGr w s0 u0 l0) :
    Calls Try.prog 4 #[.agg #[.int .i64 s0, u0]] w fun e w' => e = .returned (.bool true) ∧ Below w.heap.size w w' := by
  obtain ⟨h0, hm0, hs0, ht0⟩ := w0
  obtain ⟨A0, c0, rfl, -⟩ := h0.form
  unfold maxLen at hm0
  have b0_0 : Below w.heap.size w (w.alloc (.cells #[.int .i64 s0, .slice A0 l0.length c0] 24)) := (Below.refl _ _).alloc (Nat.le_refl _) _
  have e0_0 : Below w.heap.size w (w.alloc (.cells #[.int .i64 s0, .slice A0 l0.length c0] 24)) := b0_0
  have g0 := Blk.new w 24 #[.int .i64 s0, .slice A0 l0.length c0]
  by_cases hl0 : l0.length ≤ 1048576
  rotate_left
  · have hlt : (1048576 : Int) < (l0.length : Int) := by omega
    have HZ := Lib.hid (szGraph_no s0 (.slice A0 l0.length c0) l0 1048576 _ (h0.below e0_0) hlt (by omega) (by omega))
    clear h0
    obtain ⟨p0, p1, -, -⟩ := g0.two
    go_enter Try.func4, Try.ntmps4
    go_wp2_with fail
    refine HZ.out.mono ?_
    rintro e w1 ⟨rfl, b1⟩
    go_wp2_with fail
    go_ret
    exact ⟨rfl, btrans e0_0 b1⟩
  exact core s0 A0 c0 l0 w h0 hl0 (Lib.hid (fun B0 d0 W k0 => specDgy_any s0 _ l0 W k0 hl0 hs0 ht0)) (Lib.hid (fun B0 d0 W k0 => implDgy_any s0 _ l0 W k0 hl0))

theorem own : ownKnob Try.prog.godebug = none := by kernel_rfl
theorem laidOut : laidOutB Try.prog = true := by kernel_rfl

set_option maxHeartbeats 1000000 in
set_option maxRecDepth 100000 in
theorem lifted (os : Os) (started : os.Started) (H : Type) (enc : TypeId × Value → H) :
    ReturnsInHanded {} Try.checked os 4 .any (Rows.fnExactDegeneracyOfSpec.pre6 enc Try.prog Try.f4 Rows.fnExactDegeneracyOfRow.domain false) (Rows.fnExactDegeneracyOfSpec.post enc Try.prog Try.f4 false true false false) := by
  refine returnsInHanded_of_change (C := Try.checked) own started (by kernel_rfl) Try.func4
    (ChangeSpec.witness6 (enc := enc) (C := Try.checked) false ⟨#[], #[.agg #[.int .i64 0, .slice none 0 0]], []⟩ 8 (by kernel_rfl) (by kernel_rfl) (by kernel_rfl) (by kernel_rfl)) ?_
  intro W base args ds gs before hval0 hW hcnd _
  have hval : ∀ (j : Nat) t v, Try.f4.params[j]? = some t → args[j]? = some v → Value.okWide Try.prog W .any base t v := hval0
  have hW' := hW
  obtain ⟨p, q, hA0, hV, rfl, hfz, hnd⟩ := hW
  have hA : DataW.TrodAll enc Try.prog W 0 (fun _ => true) true Try.f4.params.toList args.toList ds p := hA0
  rw [Try.params4] at hA hval
  obtain ⟨v0, vs0, d0, ds0, p0, q0, hargs, rfl, rfl, h0, r0⟩ := trodAll_cons hA
  obtain ⟨rfl, rfl, rfl⟩ := trodAll_nil r0
  obtain rfl : args = #[v0] := by cases args; simp_all
  obtain ⟨rfl, rfl⟩ := trodVars_none hV
  have k0 := h0
  have lt0 : ∀ x ∈ p0, x.block < W.heap.size := by obtain ⟨m, hm⟩ := k0; exact DataW.trod_lt m _ _ _ hm
  obtain ⟨s0, u0, l0, rfl, w0⟩ := opens.open_graph (hval 0 24 v0 rfl rfl) h0
  clear hA0 hval0
  refine (walk s0 u0 l0 W w0).mono fun e W' ⟨he, bel⟩ => ?_
  subst he
  exact ⟨_, rfl, _, _, _, [], _, [], hW', trodAll_mk1 (shut_bool Try.underlying4 _), (trodAll_cons_mk (Below.trod laidOut (by kernel_rfl) (of_decide_eq_true (by kernel_rfl)) k0 bel lt0) trodAll_mk0), rfl, bel.frame _, fun h => by cases h⟩

theorem over : Rows.fnExactDegeneracyOfRow.holds Try.pinned (OpenSpec.ofChange Rows.fnExactDegeneracyOfSpec) :=
  OpenClaim.holds_of_wide 4 Try.f4 rfl rfl rfl rfl rfl rfl rfl ⟨rfl, rfl, rfl, rfl, rfl⟩ rfl rfl rfl rfl rfl (by kernel_rfl) Try.func4 (by kernel_rfl)
    (of_decide_eq_true (by kernel_rfl)) (by unfold Func.isWrapper; first | (rw [if_pos (by decide +kernel)]; kernel_rfl) | (rw [if_neg (by decide +kernel)]; exact ⟨rfl, rfl⟩))
    (fun os started H enc _ => lifted os started H enc)

theorem fnExactDegeneracyOf_holds : Rows.FnExactDegeneracyOfSaid := over
end Go.Proofs.Ytbbgbepemnmfdaa.exDgy
