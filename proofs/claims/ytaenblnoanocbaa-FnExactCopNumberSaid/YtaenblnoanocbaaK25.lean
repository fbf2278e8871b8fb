/- The contracts of both CaptureTimes. -/
import Derived.Handy
import Derived.Test.YtaenblnoanocbaaK16
import Derived.Test.YtaenblnoanocbaaK23
import Derived.Test.YtaenblnoanocbaaK24
import Derived.Test.YtaenblnoanocbaaProg
import Derived.Test.YtaenblnoanocbaaK01
import Derived.Deep.Slices
import Derived.Lib.SmallJoins
import Derived.OpenShut
namespace Go.Proofs.Ytaenblnoanocbaa.lists
open Go.RowKit P2 words edges ints good adjs fns sets rets apps gridr grid trip covs bitsI times mids filled cops
set_option linter.unusedVariables false

noncomputable def capT (s k : Int) (l : List Ed) : List (List Int) := gridG (gameN l s.toNat k.toNat).P s.toNat (tms (gameN l s.toNat k.toNat))
theorem gridG_ok {P n : Nat} {T : Nat → Nat → Int} (hP : P ≤ 200) (hn : n ≤ 8) : RowsOk (gridG P n T) :=
  rows_ok (M := 8) (fun r hr => by obtain ⟨p, _, rfl⟩ := List.mem_map.1 hr; rw [rowG_len]; exact hn) (by omega) (by rw [gridG_len]; omega)
theorem capT_ok (s k : Int) (l : List Ed) : RowsOk (gdG (FieldP s l k) (capT s k l)) := by
  by_cases h : FieldP s l k
  · rw [gdG_yes h]
    have h1 := h.1.2.1
    have h2 := h.2.2.2
    exact gridG_ok (game_small (by omega) (by omega)) (by omega)
  · rw [gdG_no h]; exact rows_nil
set_option maxHeartbeats 1000000 in
set_option maxRecDepth 100000 in
theorem huntIn_no (s k : Int) (v : Value) (l : List Ed) (w : World) (h : Edges w v l) (hl : l.length ≤ 1048576) (hf : ¬ FieldP s l k) :
    Calls Try.prog 63 #[.agg #[.int .i64 s, v], .int .i64 k] w fun e w' => e = .returned (.tuple #[.agg #[.slice none 0 0, .slice none 0 0, .slice none 0 0, .slice none 0 0, .slice none 0 0], .bool false]) ∧ Below w.heap.size w w' := by
  obtain ⟨A, c, rfl, -⟩ := h.form
  have HF := Lib.hid hf
  have b0 : Below w.heap.size w ((w.alloc (.cells #[.int .i64 s, .slice A l.length c] 29)).alloc (.cells #[.slice none 0 0, .slice none 0 0, .slice none 0 0, .slice none 0 0, .slice none 0 0] 77)) := ((Below.refl _ _).alloc (Nat.le_refl _) _).alloc (by simp) _
  have g0 := (Blk.new w 29 #[.int .i64 s, .slice A l.length c]).alloc (.cells #[.slice none 0 0, .slice none 0 0, .slice none 0 0, .slice none 0 0, .slice none 0 0] 77)
  have r0 := Blk.new (w.alloc (.cells #[.int .i64 s, .slice A l.length c] 29)) 77 #[.slice none 0 0, .slice none 0 0, .slice none 0 0, .slice none 0 0, .slice none 0 0]
  rw [World.size_alloc] at r0
  obtain ⟨p0, p1, -, -⟩ := g0.two
  have HCL := Lib.hid (implCopL_any s k (.slice A l.length c) l _ (h.below b0) hl)
  clear h hf
  go_enter Try.func63, Try.ntmps63
  go_wp2_with fail
  refine HCL.out.mono ?_
  rintro e w1 ⟨A1, c1, ul, rfl, o1, b1⟩
  rw [okG_no HF.out]
  have hr1 := r0.below b1 r0.lt
  have hB1 := btrans b0 b1
  obtain ⟨r0', r1', r2', r3', r4'⟩ := blk5 hr1
  have z0 := hr1.frozen 0
  have z1 := hr1.frozen 1
  have z2 := hr1.frozen 2
  have z3 := hr1.frozen 3
  have z4 := hr1.frozen 4
  have h5 := ((((hr1.set_ 0 (.slice none 0 0)).set_ 1 (.slice none 0 0)).set_ 2 (.slice none 0 0)).set_ 3 (.slice none 0 0)).set_ 4 (.slice none 0 0)
  have HQ : Hid (Blk (((((w1.setCell ⟨w.heap.size + 1, 0, none⟩ (.slice none 0 0)).setCell ⟨w.heap.size + 1, 1, none⟩ (.slice none 0 0)).setCell ⟨w.heap.size + 1, 2, none⟩ (.slice none 0 0)).setCell ⟨w.heap.size + 1, 3, none⟩ (.slice none 0 0)).setCell ⟨w.heap.size + 1, 4, none⟩ (.slice none 0 0)) (w.heap.size + 1) 77 #[.slice none 0 0, .slice none 0 0, .slice none 0 0, .slice none 0 0, .slice none 0 0]) := by
    show Blk _ _ _ _
    simpa using h5
  have HBB : Hid (Below w.heap.size w (((((w1.setCell ⟨w.heap.size + 1, 0, none⟩ (.slice none 0 0)).setCell ⟨w.heap.size + 1, 1, none⟩ (.slice none 0 0)).setCell ⟨w.heap.size + 1, 2, none⟩ (.slice none 0 0)).setCell ⟨w.heap.size + 1, 3, none⟩ (.slice none 0 0)).setCell ⟨w.heap.size + 1, 4, none⟩ (.slice none 0 0))) :=
    ((((hB1.setCell (Nat.le_succ _) _).setCell (Nat.le_succ _) _).setCell (Nat.le_succ _) _).setCell (Nat.le_succ _) _).setCell (Nat.le_succ _) _
  clear HCL b0 g0 r0 b1 o1 h5 hr1 hB1 p0 p1
  go_wp2_with fail
  obtain ⟨q0, q1, q2, q3, q4⟩ := blk5 HQ.out
  exact bodyPost_ret (v := .tuple #[.agg #[.slice none 0 0, .slice none 0 0, .slice none 0 0, .slice none 0 0, .slice none 0 0], .bool false]) (by simp [results, Try.results63, go_sem, q0, q1, q2, q3, q4]) rfl ⟨rfl, HBB.out⟩
set_option maxHeartbeats 1000000 in
set_option maxRecDepth 100000 in
theorem implCapT_any (s k : Int) (v : Value) (l : List Ed) (w : World) (h : Edges w v l) (hl : l.length ≤ 1048576) :
    Calls Try.prog 28 #[.agg #[.int .i64 s, v], .int .i64 k] w (RetGr w (FieldP s l k) (capT s k l)) := by
  obtain ⟨A, c, rfl, -⟩ := h.form
  have H := Lib.hid h
  have b0 : Below w.heap.size w (w.alloc (.cells #[.int .i64 s, .slice A l.length c] 29)) := (Below.refl _ _).alloc (Nat.le_refl _) _
  have g0 := Blk.new w 29 #[.int .i64 s, .slice A l.length c]
  obtain ⟨p0, p1, -, -⟩ := g0.two
  clear h
  by_cases hf : FieldP s l k
  · have HF := Lib.hid hf
    obtain ⟨n, rfl⟩ : ∃ n : Nat, s = (n : Int) := ⟨s.toNat, by have := hf.2.1; omega⟩
    obtain ⟨m, rfl⟩ : ∃ m : Nat, k = (m : Int) := ⟨k.toNat, by have := hf.2.2.1; omega⟩
    have HH := Lib.hid (huntIn_yes n m (.slice A l.length c) l _ (H.out.below b0) hl hf)
    have HV : Hid (capT (n : Int) (m : Int) l = gridG (gameN l n m).P n (tms (gameN l n m))) := rfl
    rw [HV.out]
    clear hf
    go_enter Try.func28, Try.ntmps28
    go_wp2_with fail
    refine HH.out.mono ?_
    rintro e w1 ⟨cv, tv, mv, xv, lv, us, us', ul, rfl, hCR, ⟨A1, c1, rfl⟩, hx, ⟨A2, c2, rfl⟩, -, b1⟩
    obtain ⟨Ac, cc, rfl, -⟩ := hCR.closed.form
    obtain ⟨At, ct, rfl, -⟩ := hCR.taken.form
    obtain ⟨Am, cm, rfl, -⟩ := hCR.lists.1
    have hB1 := btrans b0 b1
    have HX := Lib.hid (OwnG.base (hx.below ((Below.refl _ _).alloc (Nat.le_refl _) (.cells #[.slice Ac (clos l (gameN l n m).n).length cc, .slice At (codesL (gameN l n m).P (gameN l n m).n (gameN l n m).tk).length ct, .slice Am (mvG l n m).length cm, .slice A1 (gridG (gameN l n m).P n (tms (gameN l n m))).length c1, .slice A2 (rowsN (listsN n m 0)).length c2] 77))) b0.size)
    have HB2 := Lib.hid (hB1.alloc hB1.size (.cells #[.slice Ac (clos l (gameN l n m).n).length cc, .slice At (codesL (gameN l n m).P (gameN l n m).n (gameN l n m).tk).length ct, .slice Am (mvG l n m).length cm, .slice A1 (gridG (gameN l n m).P n (tms (gameN l n m))).length c1, .slice A2 (rowsN (listsN n m 0)).length c2] 77))
    clear HH b1 hx hB1 p0 p1 g0 hCR
    go_wp2_with fail
    go_ret2
    exact RetGr.yes HF.out HX.out HB2.out
  · have HH := Lib.hid (huntIn_no s k (.slice A l.length c) l _ (H.out.below b0) hl hf)
    have HN := Lib.hid hf
    clear hf
    go_enter Try.func28, Try.ntmps28
    go_wp2_with fail
    refine HH.out.mono ?_
    rintro e w1 ⟨rfl, b1⟩
    have hB1 := btrans b0 b1
    have HB2 := Lib.hid (hB1.alloc hB1.size (.cells #[.slice none 0 0, .slice none 0 0, .slice none 0 0, .slice none 0 0, .slice none 0 0] 77))
    clear HH b1 hB1 p0 p1 g0
    go_wp2_with fail
    go_ret2
    exact RetGr.nil HN.out HB2.out
set_option maxHeartbeats 1000000 in
set_option maxRecDepth 100000 in
theorem specCapT_any (s k : Int) (v : Value) (l : List Ed) (w : World) (h : Edges w v l) (hl : l.length ≤ 1048576) (hs1 : -9223372036854775808 ≤ s) (hs2 : s ≤ 9223372036854775807) :
    Calls Try.prog 27 #[.agg #[.int .i64 s, v], .int .i64 k] w (RetGr w (FieldP s l k) (capT s k l)) := by
  obtain ⟨A, c, rfl, -⟩ := h.form
  have H := Lib.hid h
  have b0 : Below w.heap.size w (w.alloc (.cells #[.int .i64 s, .slice A l.length c] 29)) := (Below.refl _ _).alloc (Nat.le_refl _) _
  have g0 := Blk.new w 29 #[.int .i64 s, .slice A l.length c]
  have HG := Lib.hid (l4Field_any s k _ l _ (h.below b0) hl hs1 hs2)
  clear h
  by_cases hf : FieldP s l k
  · rw [okG_yes hf] at HG
    have HF := Lib.hid hf
    have hk3 := hf.2.2.2
    have hs8 := hf.1.2.1
    obtain ⟨n, rfl⟩ : ∃ n : Nat, s = (n : Int) := ⟨s.toNat, by have := hf.2.1; omega⟩
    obtain ⟨m, rfl⟩ : ∃ m : Nat, k = (m : Int) := ⟨k.toNat, by have := hf.2.2.1; omega⟩
    have HV : Hid (capT (n : Int) (m : Int) l = gridG (gameN l n m).P n (tms (gameN l n m))) := rfl
    rw [HV.out]
    have HM := Lib.hid (fun (W : World) (hb : Below w.heap.size w W) => l4Make_any n m (.slice A l.length c) l W (H.out.below hb) hl hf.1 (by omega) (by omega))
    have HT := Lib.hid (fun fv mv bv uf um ub (W : World) (h : HS W l n m fv mv bv uf um ub) => l4Times_any n m fv mv bv uf um ub l W h (by omega) (by omega))
    have HGL : Hid ((gridG (gameN l n m).P n (tms (gameN l n m))).length = (gameN l n m).P) := gridG_len _ _ _
    clear hf hk3 hs8
    go_enter Try.func27, Try.ntmps27
    go_wp2_with fail
    refine HG.out.mono ?_
    rintro e w1 ⟨rfl, b1⟩
    have e1 := btrans b0 b1
    have g1 := g0.below b1 g0.lt
    clear HG b0 b1 g0
    obtain ⟨p0, p1, -, -⟩ := g1.two
    have HM1 := Lib.hid (HM.out w1 e1)
    go_wp2_with fail
    refine HM1.out.mono ?_
    rintro e w2 ⟨fv, mv, bv, uf, um, ub, rfl, hs, b2⟩
    have HT2 := Lib.hid (HT.out fv mv bv uf um ub w2 hs)
    have e2 := btrans e1 b2
    clear hs b2 e1 g1
    go_wp2_with fail
    refine HT2.out.mono ?_
    rintro e w3 ⟨A3, c3, u3, rfl, o3, b3⟩
    have o4 : OwnG w3 w2.heap.size (.slice A3 (gridG (gameN l n m).P n (tms (gameN l n m))).length c3) u3 (gridG (gameN l n m).P n (tms (gameN l n m))) := by rw [HGL.out]; exact o3
    have h9 := RetGr.yes (A := A3) (c := c3) HF.out (o4.base e2.size) (btrans e2 b3)
    rw [HGL.out] at h9
    have H9 := Lib.hid h9
    clear h9 o3 o4 b3
    go_wp2_with fail
    go_ret2
    exact H9.out
  · rw [okG_no hf] at HG
    have HN := Lib.hid hf
    clear hf
    go_enter Try.func27, Try.ntmps27
    go_wp2_with fail
    refine HG.out.mono ?_
    rintro e w1 ⟨rfl, b1⟩
    have e1 := btrans b0 b1
    go_wp2_with fail
    go_ret2
    exact RetGr.no HN.out (own_base (own_new0 _ _ _) e1.size) (e1.alloc e1.size _)
end Go.Proofs.Ytaenblnoanocbaa.lists

/- Arguments of the laws, opened: a Graph as it came in, a slice of integers as it came in. -/
namespace Go.Proofs.Ytaenblnoanocbaa.opens
open Go.RowKit Go.Joins Go.ChangeShapes Go.WideShapes Go.Deep P2 words

theorem addr_add (g o j : Nat) : (⟨g, o, none⟩ : Addr).add j = ⟨g, o + j, none⟩ := by unfold Addr.add; split <;> simp_all
theorem add_of_add (a : Addr) (i j : Nat) : (a.add i).add j = a.add (i + j) := by
  unfold Addr.add
  by_cases hi : i = 0 <;> by_cases hj : j = 0 <;> simp [hi, hj, Nat.add_assoc]

/-- what is told of a Graph that came in -/
def IsGr (w : World) (s : Int) (v : Value) (l : List Ed) : Prop :=
  Edges w v l ∧ l.length ≤ maxLen ∧ -9223372036854775808 ≤ s ∧ s ≤ 9223372036854775807

theorem bounds64 {n : Int} (h : (Lit.int .i64 n).wf = true) : -9223372036854775808 ≤ n ∧ n ≤ 9223372036854775807 := by
  simp [Lit.wf, IntKind.min, IntKind.max, IntKind.signed, IntKind.bits] at h
  omega

/-- what is told of a slice of integers that came in -/
def IsIn (w : World) (v : Value) (l : List Int) : Prop := Ints w v l ∧ l.length ≤ maxLen ∧ ∀ x ∈ l, -9223372036854775808 ≤ x ∧ x ≤ 9223372036854775807

section
variable {H : Type} {enc : TypeId × Value → H} {w : World} {spare : Nat → Bool} {held : Bool}
theorem open_edges {fuel : Nat} {v : Value} {x : DataW H × List MemPlace} (h : DataW.trod enc Try.prog w 0 spare held fuel 22 [v] = some x) :
    ∃ l : List Ed, Edges w v l ∧ l.length ≤ maxLen := by
  rcases open_slice Try.underlying22 h with ⟨hv, _⟩ | ⟨a, len, cap, m, n, D, Pl, hv, _, hl, hm, hmm, _, hi⟩
  · obtain rfl : v = .slice none 0 0 := by simpa using hv
    exact ⟨[], Reads.nil _ _, Nat.zero_le _⟩
  · obtain rfl : v = .slice (some a) len cap := by simpa using hv
    have hlm : len ≤ m := by rw [hmm]; split <;> omega
    have hC : Try.prog.cellsOf 97 = 2 := by kernel_rfl
    have hC1 : Try.prog.cellsOf 3 = 1 := by kernel_rfl
    rw [hC] at hi
    have key : ∀ i, i < len → ∃ e : Ed, w.cell? (a.add (i * 2)) = some (.int .i64 e.1) ∧ w.cell? (a.add (i * 2 + 1)) = some (.int .i64 e.2) := fun i hil => by
      obtain ⟨cs', hc, ht⟩ := hi i (by omega)
      obtain ⟨xs, m', _, _, _, hxl, he⟩ := DataW.trod_array Try.underlying97 ht
      obtain ⟨_, hcl, hat⟩ := World.cells?_some hc
      rw [hC1] at he
      match cs', hcl with
      | [c0, c1], _ =>
        match xs, hxl with
        | [y0, y1], _ =>
          have e0 : DataW.trod enc Try.prog w 0 spare held m' 3 [c0] = some y0 := he 0 (by decide)
          have e1 : DataW.trod enc Try.prog w 0 spare held m' 3 [c1] = some y1 := he 1 (by decide)
          obtain ⟨n0, h0, _, _⟩ := DataW.trod_int Try.underlying3 e0
          obtain ⟨n1, h1, _, _⟩ := DataW.trod_int Try.underlying3 e1
          obtain rfl : c0 = .int .i64 n0 := by simpa using h0
          obtain rfl : c1 = .int .i64 n1 := by simpa using h1
          have a0 := hat 0 (by decide)
          have a1 := hat 1 (by decide)
          rw [add_of_add] at a0 a1
          exact ⟨(n0, n1), by simpa using a0, by simpa using a1⟩
    obtain ⟨f, hf⟩ := choose_lt (α := Ed) key
    refine ⟨(List.range len).map f, ⟨some a, cap, by simp, fun hn => ?_⟩, by simp; omega⟩
    simp only [List.length_map, List.length_range] at hn ⊢
    obtain ⟨b, off, spot⟩ := a
    have hc0 := (hf 0 hn).1
    have hspot : spot = none := by simpa [Addr.add] using World.cell?_spot hc0
    subst hspot
    refine ⟨b, off, rfl, hl, fun j u hu => ?_⟩
    have hjl : j < len * 2 := by
      have := (List.getElem?_eq_some_iff.1 hu).1
      rw [cellsE_len] at this; simpa using this
    obtain ⟨k, hk⟩ : ∃ k, k = j / 2 := ⟨_, rfl⟩
    have hkl : k < len := by omega
    have hkf : ((List.range len).map f)[k]? = some (f k) := by simp [hkl]
    have hck := cellsE_at hkf
    have hcl := hf k hkl
    rw [addr_add, addr_add] at hcl
    rcases Nat.mod_two_eq_zero_or_one j with h0 | h0
    · obtain rfl : j = k * 2 := by omega
      rw [hck.1] at hu
      rw [hcl.1, ← hu]
    · obtain rfl : j = k * 2 + 1 := by omega
      rw [hck.2] at hu
      rw [hcl.2, ← hu]

set_option maxRecDepth 100000 in
theorem open_graph {r : Reach} {b0 : Nat} {v : Value} {d : DataW H} {p : List MemPlace} (hv : Value.okWide Try.prog w r b0 24 v)
    (h : DataW.Trod enc Try.prog w 0 spare held 24 v d p) : ∃ s u l, v = .agg #[.int .i64 s, u] ∧ IsGr w s u l := by
  obtain ⟨c0, c1, y0, y1, m, rfl, _, _, h0, h1⟩ := open_agg2 Try.underlying24 (by kernel_rfl) (by kernel_rfl) hv h
  obtain ⟨n0, k0, _, w0⟩ := DataW.trod_int Try.underlying3 h0
  obtain rfl : c0 = .int .i64 n0 := by simpa using k0
  obtain ⟨l, he, hl⟩ := open_edges h1
  exact ⟨n0, c1, l, rfl, he, hl, bounds64 w0⟩

set_option maxRecDepth 100000 in
theorem open_intsl {r : Reach} {b0 : Nat} {v : Value} {d : DataW H} {p : List MemPlace} (hv : Value.okWide Try.prog w r b0 36 v)
    (h : DataW.Trod enc Try.prog w 0 spare held 36 v d p) : ∃ u l, v = u ∧ IsIn w u l := by
  obtain ⟨A, len, cap, rfl⟩ := okWide_slice Try.underlying36 hv
  obtain ⟨fuel, hf⟩ := h
  simp only [Value.cells] at hf
  rcases open_slice Try.underlying36 hf with ⟨hv, _⟩ | ⟨a, len', cap', m, n, D, Pl, hv, _, hl, hm, hmm, _, hi⟩
  · have e : Value.slice A len cap = .slice none 0 0 := by simpa using hv
    rw [e]
    exact ⟨_, [], rfl, Reads.nil _ _, Nat.zero_le _, fun x hx => by cases hx⟩
  · have e : Value.slice A len cap = .slice (some a) len' cap' := by simpa using hv
    rw [e]
    have hlm : len' ≤ m := by rw [hmm]; split <;> omega
    have hC1 : Try.prog.cellsOf 3 = 1 := by kernel_rfl
    rw [hC1] at hi
    have key : ∀ i, i < len' → ∃ x : Int, w.cell? (a.add i) = some (.int .i64 x) ∧ (Lit.int .i64 x).wf = true := fun i hil => by
      obtain ⟨cs', hc, ht⟩ := hi i (by omega)
      obtain ⟨_, hcl, hat⟩ := World.cells?_some hc
      match cs', hcl with
      | [c0], _ =>
        obtain ⟨n0, h0, _, hw⟩ := DataW.trod_int Try.underlying3 ht
        obtain rfl : c0 = .int .i64 n0 := by simpa using h0
        have a0 := hat 0 (by decide)
        rw [add_of_add, Nat.mul_one] at a0
        exact ⟨n0, by simpa using a0, hw⟩
    obtain ⟨f, hf⟩ := choose_lt (α := Int) key
    refine ⟨_, (List.range len').map f, rfl, ⟨some a, cap', by simp, fun hn => ?_⟩, by simp; omega, fun x hx => ?_⟩
    · simp only [List.length_map, List.length_range] at hn ⊢
      obtain ⟨b, off, spot⟩ := a
      have hc0 := (hf 0 hn).1
      have hspot : spot = none := by simpa [Addr.add] using World.cell?_spot hc0
      subst hspot
      refine ⟨b, off, rfl, hl, fun j u hu => ?_⟩
      have hjl : j < len' := by
        have := (List.getElem?_eq_some_iff.1 hu).1
        rw [cellsI_len] at this; simpa using this
      have hcl := (hf j hjl).1
      rw [addr_add] at hcl
      have hkf : ((List.range len').map f)[j]? = some (f j) := by simp [hjl]
      rw [cellsI_at hkf] at hu
      rw [hcl, ← hu]
    · simp only [List.mem_map, List.mem_range] at hx
      obtain ⟨j, hj, rfl⟩ := hx
      exact bounds64 (hf j hj).2
end
end Go.Proofs.Ytaenblnoanocbaa.opens
