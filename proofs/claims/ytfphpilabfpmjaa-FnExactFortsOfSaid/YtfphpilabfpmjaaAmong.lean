/- The neighbors of a node that are not gone: the contract of the model's l5Among. -/
import Derived.Handy
import Derived.Test.YtfphpilabfpmjaaLater
import Derived.Test.YtfphpilabfpmjaaNeighS
import Derived.Test.YtfphpilabfpmjaaBall
import Derived.Maps.AppendAt
import Derived.Deep.DeepCutAuto
import Derived.Deep.RegionHeld3
namespace Go.Proofs.Ytfphpilabfpmjaa.costs
open Go.RowKit P2 words edges ints good adjs fns sets rets covs reach bags balls
set_option linter.unusedVariables false

theorem nwf (p : Nat → Bool) (q : Int → Bool) (n : Nat) : (nw p n).filter q = nw (fun z => p z && q (z : Int)) n := by
  unfold nw
  rw [List.filter_map, List.filter_filter]
  congr 1
  exact List.filter_congr fun z _ => by simp [Bool.and_comm]
/-- the neighbors of a node that are not gone -/
def amgL (n : Nat) (l : List Ed) (gl : List Int) (x : Int) : List Int := nw (fun y => !goneB gl y && adj l x (y : Int)) n
def amgK (n : Nat) (l : List Ed) (gl : List Int) (x : Int) (k : Nat) : List Int := ((nw (fun y => adj l x (y : Int)) n).take k).filter fun y => !decide (y ∈ gl)
theorem amgK_len (n : Nat) (l : List Ed) (gl : List Int) (x : Int) (k : Nat) : (amgK n l gl x k).length ≤ n := by
  unfold amgK
  have h1 := List.length_filter_le (fun y => !decide (y ∈ gl)) ((nw (fun y => adj l x (y : Int)) n).take k)
  have h2 : ((nw (fun y => adj l x (y : Int)) n).take k).length ≤ (nw (fun y => adj l x (y : Int)) n).length := by rw [List.length_take]; omega
  have h3 := nw_len (fun y => adj l x (y : Int)) n
  omega
theorem amgK_yes {n : Nat} {l : List Ed} {gl : List Int} {x y : Int} {k : Nat} (hy : (nw (fun y => adj l x (y : Int)) n)[k]? = some y) (hg : decide (y ∈ gl) = false) : amgK n l gl x (k + 1) = amgK n l gl x k ++ [y] := by
  unfold amgK
  rw [List.take_add_one, hy, List.filter_append]
  simp only [Option.toList, List.filter_cons, List.filter_nil, hg]
  rfl
theorem amgK_no {n : Nat} {l : List Ed} {gl : List Int} {x y : Int} {k : Nat} (hy : (nw (fun y => adj l x (y : Int)) n)[k]? = some y) (hg : decide (y ∈ gl) = true) : amgK n l gl x (k + 1) = amgK n l gl x k := by
  unfold amgK
  rw [List.take_add_one, hy, List.filter_append]
  simp only [Option.toList, List.filter_cons, List.filter_nil, hg]
  simp
theorem amgK_all {n : Nat} {l : List Ed} {gl : List Int} {x : Int} : amgK n l gl x (nw (fun y => adj l x (y : Int)) n).length = amgL n l gl x := by
  unfold amgK amgL
  rw [List.take_length, nwf]
  exact reach.nw_congr fun z _ => Bool.and_comm _ _
set_option maxHeartbeats 4000000 in
set_option maxRecDepth 100000 in
theorem l5Among_any (n : Nat) (x : Int) (v u : Value) (l : List Ed) (gl : List Int) (w : World) (h : Edges w v l) (hl : l.length ≤ 1048576) (hu : Ints w u gl) (hgl : gl.length ≤ 1048576) (hn : n ≤ 8) :
    Calls Try.prog 114 #[.agg #[.int .i64 (n : Int), v], u, .int .i64 x] w (RowI w (amgL n l gl x)) := by
  obtain ⟨i0, hi, hz0, hz1, hz2⟩ := info_parts infoInt
  obtain ⟨A, c, rfl, -⟩ := h.form
  have HU := Lib.hid hu
  have b0 : Below w.heap.size w ((w.alloc (.cells #[.int .i64 (n : Int), .slice A l.length c] 29)).alloc (.cells #[] 3)) := ((Below.refl _ _).alloc (Nat.le_refl _) _).alloc (by simp) _
  have HB0 := Lib.hid b0
  have g0 := (Blk.new w 29 #[.int .i64 (n : Int), .slice A l.length c]).alloc (.cells #[] 3)
  obtain ⟨p0, p1, -, -⟩ := g0.two
  have o0 := own_new0 (w.alloc (.cells #[.int .i64 (n : Int), .slice A l.length c] 29)) 3 1
  rw [World.size_alloc] at o0
  have HO0 := Lib.hid o0
  have HNB := Lib.hid (neigh.l2Neighbors_any n x (.slice A l.length c) l _ (h.below b0) hl hn)
  have HAL := Lib.hid (amgK_all (n := n) (l := l) (gl := gl) (x := x))
  clear h hu b0 g0 o0
  go_enter Try.func114, Try.ntmps114
  go_wp2_with fail
  refine HNB.out.mono ?_
  rintro e w3 ⟨A5, c5, rfl, o5, b5⟩
  have HB3 := Lib.hid (btrans HB0.out b5)
  have HO3 : Hid (w3.ownsRow w.heap.size 3 1 (.slice (some ⟨w.heap.size + 1, 0, none⟩) 0 0) (amgK n l gl x 0).length (cellsI (amgK n l gl x 0))) := own_base (own_below HO0.out b5) (by omega)
  have HR3 := Lib.hid (own_base (B' := w.heap.size) o5 HB0.out.size)
  have HAP : Hid (∀ k, (Value.slice (some ⟨w.heap.size + 1, 0, none⟩) 0 0).ownBlock = some k → (Value.slice A5 (nw (fun y => adj l x (y : Int)) n).length c5).ownBlock ≠ some k) := fun q hq hq' => by
    have h1 := (HO0.out.lt q hq).2
    have h2 := (o5.lt q hq').1
    omega
  have HAT := Lib.hid (fun (k : Nat) (y : Int) (hk : (nw (fun y => adj l x (y : Int)) n)[k]? = some y) => amgK_yes (gl := gl) hk)
  have HAN := Lib.hid (fun (k : Nat) (y : Int) (hk : (nw (fun y => adj l x (y : Int)) n)[k]? = some y) => amgK_no (gl := gl) hk)
  have HNL := nw_len (fun y => adj l x (y : Int)) n
  clear o5 b5 p0 p1 HB0 HO0 HNB
  generalize nw (fun y => adj l x (y : Int)) n = N1 at *
  go_wp2_with fail
  go_loopg [7, 9] N1.length (fun g ov iv wr => ∃ (k : Nat) (ow : Value), ow = ov ∧ k + g = N1.length ∧ iv = .int .i64 (k : Int) ∧ wr.ownsRow w.heap.size 3 1 ow (amgK n l gl x k).length (cellsI (amgK n l gl x k)) ∧ wr.ownsRow w.heap.size 3 1 (.slice A5 N1.length c5) N1.length (cellsI N1) ∧ Hid (∀ k, ow.ownBlock = some k → (Value.slice A5 N1.length c5).ownBlock ≠ some k) ∧ Below w.heap.size w wr)
  case atStart => exact ⟨0, _, rfl, by omega, rfl, HO3.out, HR3.out, HAP, HB3.out⟩
  case round =>
    clear HO3 HR3 HAP HB3
    obtain ⟨k, ow, rfl, hkg, rfl, hrow, hr5, hap, hB⟩ := hrel
    obtain ⟨A4, c4, rfl⟩ := own_form hrow
    have hml := amgK_len n l gl x k
    have hsz := hB.size
    cases gk with
    | zero =>
      obtain rfl : k = N1.length := by omega
      rw [HAL.out] at hrow
      have HR := Lib.hid hrow
      have HB := Lib.hid hB
      have HEQ := Lib.hid HAL.out
      clear hrow hB hr5 hap
      go_wp2_with fail
      go_ret
      rw [HEQ.out]
      exact ⟨A4, c4, rfl, HR.out, HB.out⟩
    | succ g2 =>
      have hlt : k < N1.length := by omega
      have hlt' : (k : Int) < (N1.length : Int) := by omega
      obtain ⟨y, hy⟩ : ∃ y, N1[k]? = some y := ⟨_, List.getElem?_eq_getElem hlt⟩
      obtain ⟨_, _, hf, hcc⟩ := (show Ints wr (.slice A5 N1.length c5) N1 from Reads.of_own hr5).form
      cases hf
      obtain ⟨g9, o9, rfl, q9⟩ := hcc k _ hy
      have HH := Lib.hid (l1Has_any u gl y wr (HU.out.below hB) hgl)
      have HB := Lib.hid hB
      have HR5 := Lib.hid hr5
      cases hd : decide (y ∈ gl) with
      | true =>
        have HN := Lib.hid (HAN.out k y hy hd)
        rw [hd] at HH
        have HR := Lib.hid hrow
        clear hd hy hcc hB hrow hr5
        go_wp2_with fail
        refine HH.out.mono ?_
        rintro e w' ⟨rfl, rfl⟩
        go_wp2_with fail
        go_roundg g2
        case measure => omega
        case rel => exact ⟨k + 1, _, rfl, by omega, by go_num, by rw [HN.out]; exact HR.out, HR5.out, hap, HB.out⟩
      | false =>
        have HN := Lib.hid (HAT.out k y hy hd)
        rw [hd] at HH
        clear hd hy hcc hB hr5
        generalize amgK n l gl x k = m at *
        go_wp2_with fail
        refine HH.out.mono ?_
        rintro e w' ⟨rfl, rfl⟩
        go_wp2_with (at_builtin; refine wpList_append_own_at _ rfl _ _ 25 rfl (w.heap.size) 3 i0 (.int .i64 0) 1 8 Try.underlying25 hi hz0 hz1 hz2 rfl (by decide) _ _ _ rfl (hrow.alloc _) ⟨wr.heap.size, 0, none⟩ 1 1 [.int .i64 (y)] rfl rfl (cell_one_new _ _ _) (fun x hx => by simp at hx; subst hx; rfl) (by unfold maxLen; omega) (by omega) (by simp; omega) ?_; intro v2 w2 hown2 hgrow2 _ hl2)
        have hr6 := Lib.hid ((HR5.out.alloc (.cells #[.int .i64 y] 3)).kept hgrow2 (bags.apart_or hap.out))
        have hap6 : Hid (∀ k, v2.ownBlock = some k → (Value.slice (some ⟨g9, o9, none⟩) N1.length c5).ownBlock ≠ some k) := bags.apart_grow hap.out hl2 (fun q hq => by have := (HR5.out.lt q hq).2; simp; omega)
        obtain ⟨hown3, hB2⟩ := push1 hrow hown2 hgrow2 hsz
        have HO9 := Lib.hid hown3
        have HB9 := Lib.hid (HB.out.trans hB2)
        clear hgrow2 hrow hown2 hown3 hB2 q9 hl2
        go_roundg g2
        case measure => omega
        case rel => exact ⟨k + 1, _, rfl, by omega, by go_num, by rw [HN.out]; exact HO9.out, hr6.out, hap6, HB9.out⟩
end Go.Proofs.Ytfphpilabfpmjaa.costs
