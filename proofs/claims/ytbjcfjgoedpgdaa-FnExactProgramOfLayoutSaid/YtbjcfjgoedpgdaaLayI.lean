/- Layouts: the contracts of IsLayout, of the program and of the model. -/
import Derived.Handy
import Derived.Test.YtbjcfjgoedpgdaaElim
import Derived.Deep.DeepCutAuto
import Derived.Deep.RegionHeld3
namespace Go.Proofs.Ytbjcfjgoedpgdaa.bags
open Go.RowKit P2 words edges ints good adjs fns sets rets covs each
set_option linter.unusedVariables false

theorem retBB' {a b c d : Bool} (h : a = c) (h2 : b = d) : Ending.returned (.tuple #[.bool a, .bool b]) = .returned (.tuple #[.bool c, .bool d]) := by rw [h, h2]
set_option maxHeartbeats 1000000 in
set_option maxRecDepth 100000 in
theorem implIsLayout_any (s : Int) (v u : Value) (l : List Ed) (tl : List Int) (w : World) (h : Edges w v l) (hl : l.length ≤ 1048576) (hu : Ints w u tl) (htl : tl.length ≤ 1048576) :
    Calls Try.prog 17 #[.agg #[.int .i64 s, v], u] w fun e w' => e = .returned (.tuple #[.bool (okG (ElimOk s l tl)), .bool (goodB s l)]) ∧ Below w.heap.size w w' := by
  obtain ⟨A, c, rfl, -⟩ := h.form
  have b0 : Below w.heap.size w (w.alloc (.cells #[.int .i64 s, .slice A l.length c] 29)) := (Below.refl _ _).alloc (Nat.le_refl _) _
  have g0 := Blk.new w 29 #[.int .i64 s, .slice A l.length c]
  have HO := Lib.hid (fun (W : World) (hW : Below w.heap.size w W) => hasOrder_any s _ u l tl W (h.below hW) hl (hu.below hW) htl)
  have HG := Lib.hid (fun (W : World) (hW : Below w.heap.size w W) => implIsGraph_any s _ l W (h.below hW) hl)
  clear h hu
  obtain ⟨p0, p1, -, -⟩ := g0.two
  have HD : Hid (Below w.heap.size w (w.alloc (.cells #[.int .i64 s, .slice A l.length c] 29)).drew) := b0.drew
  clear b0 g0
  go_enter Try.func17, Try.ntmps17
  go_wp2_with fail
  generalize w.alloc (.cells #[.int .i64 s, .slice A l.length c] 29) = w0 at *
  go_region_held3 (fun w' => w'.cell? ⟨w.heap.size, 0, none⟩ = some (.int .i64 s) ∧ w'.cell? ⟨w.heap.size, 1, none⟩ = some (.slice A l.length c)) (go_keep)
    (first | (go_at_call 48; refine (keepb2 (HO.out _ (by first | exact HD.out | exact btrans HD.out b4)) (fun _ _ h => h.2) (p := ⟨w.heap.size, 0, none⟩) (q := ⟨w.heap.size, 1, none⟩) (a := .int .i64 s) (b := .slice A l.length c) ?_ ?_).mono ?_; (simp [*]); (simp [*]); rintro e w3 ⟨⟨rfl, b3⟩, k0, k1⟩)
           | (go_at_call 49; refine (keepb2 (HG.out _ (by first | exact HD.out | exact btrans HD.out b3)) (fun _ _ h => h.2) (p := ⟨w.heap.size, 0, none⟩) (q := ⟨w.heap.size, 1, none⟩) (a := .int .i64 s) (b := .slice A l.length c) ?_ ?_).mono ?_; (simp [*]); (simp [*]); rintro e w4 ⟨⟨rfl, b4⟩, k2, k3⟩))
  all_goals
    first | have e5 := btrans (btrans HD.out b3) b4 | have e5 := btrans (btrans HD.out b4) b3
    go_wp2_with fail
    go_ret2
    exact ⟨rfl, e5⟩
theorem l6Layout_any (n : Nat) (v u : Value) (l : List Ed) (tl : List Int) (w : World) (h : Edges w v l) (hu : Ints w u tl) (htl : tl.length ≤ 1048576) (hn8 : n ≤ 8) :
    Calls Try.prog 46 #[.agg #[.int .i64 (n : Int), v], u] w fun e w' => e = .returned (.bool (okG (EachS n tl))) ∧ Below w.heap.size w w' := by
  obtain ⟨A, c, rfl, -⟩ := h.form
  have b0 : Below w.heap.size w (w.alloc (.cells #[.int .i64 (n : Int), .slice A l.length c] 29)) := (Below.refl _ _).alloc (Nat.le_refl _) _
  obtain ⟨p0, p1, -, -⟩ := (Blk.new w 29 #[.int .i64 (n : Int), .slice A l.length c]).two
  have HE := Lib.hid (l2Each_any n _ u l tl _ (h.below b0) (hu.below b0) htl hn8)
  clear h hu
  go_enter Try.func46, Try.ntmps46
  go_wp2_with fail
  refine HE.out.mono ?_
  rintro e w2 ⟨rfl, b2⟩
  go_wp2_with fail
  go_ret
  exact ⟨rfl, btrans b0 b2⟩
/-- the model's two tests ahead: valid, and a layout: for any function that begins so -/
theorem elim_each {n : Nat} {l : List Ed} {tl : List Int} (hg : P2.Good (n : Int) l) : okG (EachS n tl) = okG (ElimOk (n : Int) l tl) := by
  rw [Bool.eq_iff_iff, okG_iff, okG_iff]
  unfold ElimOk
  rw [Int.toNat_natCast]
  exact ⟨fun h => ⟨hg, h⟩, fun h => h.2⟩
set_option maxHeartbeats 1000000 in
theorem specIsLayout_any (s : Int) (v u : Value) (l : List Ed) (tl : List Int) (w : World) (h : Edges w v l) (hl : l.length ≤ 1048576) (hu : Ints w u tl) (htl : tl.length ≤ 1048576) (hs1 : -9223372036854775808 ≤ s) (hs2 : s ≤ 9223372036854775807) :
    Calls Try.prog 14 #[.agg #[.int .i64 s, v], u] w fun e w' => e = .returned (.tuple #[.bool (okG (ElimOk s l tl)), .bool (goodB s l)]) ∧ Below w.heap.size w w' := by
  obtain ⟨A, c, rfl, -⟩ := h.form
  have b0 : Below w.heap.size w (w.alloc (.cells #[.int .i64 s, .slice A l.length c] 29)) := (Below.refl _ _).alloc (Nat.le_refl _) _
  have g0 := Blk.new w 29 #[.int .i64 s, .slice A l.length c]
  have H := Lib.hid h
  have HU := Lib.hid hu
  have HG := Lib.hid (l2Good_any s _ l _ (h.below b0) hl hs1 hs2)
  clear h hu
  by_cases hgd : P2.Good s l
  · rw [goodB_yes hgd] at HG ⊢
    have h0 := hgd.1
    have h8 := hgd.2.1
    obtain ⟨n, rfl⟩ : ∃ n : Nat, s = (n : Int) := ⟨s.toNat, by omega⟩
    have hn : n ≤ 8 := by omega
    have HV := Lib.hid (elim_each (tl := tl) hgd)
    clear hgd
    go_enter Try.func14, Try.ntmps14
    go_wp2_with fail
    refine HG.out.mono ?_
    rintro e w1 ⟨rfl, b1⟩
    have e1 := btrans b0 b1
    have g1 := g0.below b1 g0.lt
    obtain ⟨p0, p1, -, -⟩ := g1.two
    clear HG b0 b1 g0
    go_wp2_with fail
    refine (l6Layout_any n (.slice A l.length c) u l tl w1 (H.out.below e1) (HU.out.below e1) htl hn).mono ?_
    rintro e w2 ⟨rfl, b2⟩
    go_wp2_with fail
    go_ret2
    exact ⟨retBB' HV.out rfl, btrans e1 b2⟩
  · rw [goodB_no hgd] at HG ⊢
    have HN : Hid (okG (ElimOk s l tl) = false) := okG_no fun hh => hgd hh.1
    clear hgd
    go_enter Try.func14, Try.ntmps14
    go_wp2_with fail
    refine HG.out.mono ?_
    rintro e w1 ⟨rfl, b1⟩
    go_wp2_with fail
    go_ret2
    exact ⟨retBB' HN.out.symm rfl, btrans b0 b1⟩
end Go.Proofs.Ytbjcfjgoedpgdaa.bags
