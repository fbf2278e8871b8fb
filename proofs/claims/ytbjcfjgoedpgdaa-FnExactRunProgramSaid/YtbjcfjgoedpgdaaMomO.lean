/- The contracts of the program's outset and momentsOf. -/
import Derived.Handy
import Derived.Test.YtbjcfjgoedpgdaaMomI
import Derived.Deep.DeepCutAuto
namespace Go.Proofs.Ytbjcfjgoedpgdaa.moms
open Go.RowKit P2 words edges ints good near adjs fns sets rets covs reach bags bitsI fronts
set_option linter.unusedVariables false

/-- the moments as numbers -/
noncomputable def momC (n : Nat) (l : List Ed) (pl : List Int) (k : Nat) : List (Nat × Nat) := (List.range (k + 1)).map fun j => (numOf (momS pl j) n, numOf (momU n l pl j) n)
theorem momC_len (n : Nat) (l : List Ed) (pl : List Int) (k : Nat) : (momC n l pl k).length = k + 1 := by simp [momC]
theorem momC_succ (n : Nat) (l : List Ed) (pl : List Int) (k : Nat) : momC n l pl (k + 1) = momC n l pl k ++ [(numOf (momS pl (k + 1)) n, numOf (momU n l pl (k + 1)) n)] := by
  unfold momC; rw [List.range_succ (n := k + 1), List.map_append]; rfl
theorem momC_at {n : Nat} {l : List Ed} {pl : List Int} {k j : Nat} (h : j ≤ k) : (momC n l pl k)[j]? = some (numOf (momS pl j) n, numOf (momU n l pl j) n) := by
  simp [momC, show j < k + 1 by omega]
def cellsM (L : List (Nat × Nat)) : List Value := L.flatMap fun e : Nat × Nat => [.int .u64 (e.1 : Int), .int .u64 (e.2 : Int)]
theorem cellsM_len (L : List (Nat × Nat)) : (cellsM L).length = L.length * 2 := by
  induction L with
  | nil => rfl
  | cons a l ih => simp only [cellsM, List.flatMap_cons, List.length_append, List.length_cons, List.length_nil] at ih ⊢; omega
theorem cellsM_app (L M : List (Nat × Nat)) : cellsM (L ++ M) = cellsM L ++ cellsM M := by simp [cellsM]
theorem cellsM_at : ∀ {L : List (Nat × Nat)} {k : Nat} {e : Nat × Nat}, L[k]? = some e → (cellsM L)[k * 2]? = some (.int .u64 (e.1 : Int)) ∧ (cellsM L)[k * 2 + 1]? = some (.int .u64 (e.2 : Int))
  | [], _, _, h => by simp at h
  | a :: l, 0, e, h => by
    simp at h
    subst h
    exact ⟨rfl, rfl⟩
  | a :: l, k + 1, e, h => by
    have := cellsM_at (L := l) (k := k) (e := e) (by simpa using h)
    simp only [cellsM, List.flatMap_cons] at this ⊢
    rw [show (k + 1) * 2 = (k * 2) + 2 from by omega, show k * 2 + 2 + 1 = (k * 2 + 1) + 2 from by omega]
    exact this
/-- a slice that reads as moments -/
def Moms (w : World) (v : Value) (L : List (Nat × Nat)) : Prop := Reads w 2 v L.length (cellsM L)
theorem Moms.form {w : World} {v : Value} {L : List (Nat × Nat)} (h : Moms w v L) : ∃ A c, v = .slice A L.length c ∧ ∀ (k : Nat) (x : Nat × Nat), L[k]? = some x → ∃ g o, A = some ⟨g, o, none⟩ ∧ w.cell? ⟨g, o + k * 2, none⟩ = some (.int .u64 (x.1 : Int)) ∧ w.cell? ⟨g, o + k * 2 + 1, none⟩ = some (.int .u64 (x.2 : Int)) := by
  obtain ⟨A, c, e, hx⟩ := h
  refine ⟨A, c, e, fun k x hk => ?_⟩
  obtain ⟨g, o, rfl, _, hj⟩ := hx (by have := (List.getElem?_eq_some_iff.1 hk).1; omega)
  exact ⟨g, o, rfl, hj _ _ (cellsM_at hk).1, hj _ _ (cellsM_at hk).2⟩
noncomputable def mcG (p : Prop) (L : List (Nat × Nat)) : List (Nat × Nat) := if okG p = true then L else []
theorem mcG_yes {p : Prop} (h : p) (L : List (Nat × Nat)) : mcG p L = L := by unfold mcG; rw [okG_yes h]; rfl
theorem mcG_no {p : Prop} (h : ¬ p) (L : List (Nat × Nat)) : mcG p L = [] := by unfold mcG; rw [okG_no h]; rfl
def RetM (w : World) (p : Prop) (L : List (Nat × Nat)) (e : Ending) (w' : World) : Prop :=
  ∃ A c, e = .returned (.tuple #[.slice A (mcG p L).length c, .bool (okG p)]) ∧ Moms w' (.slice A (mcG p L).length c) (mcG p L) ∧ Below w.heap.size w w'
theorem RetM.yes {w w' : World} {p : Prop} {L : List (Nat × Nat)} {A : Option Addr} {c : Nat} (hp : p) (ho : Moms w' (.slice A L.length c) L) (hb : Below w.heap.size w w') :
    RetM w p L (.returned (.tuple #[.slice A L.length c, .bool true])) w' := by
  refine ⟨A, c, ?_, ?_, hb⟩
  · rw [mcG_yes hp, okG_yes hp]
  · rw [mcG_yes hp]; exact ho
theorem RetM.nil {w w' : World} {p : Prop} {L : List (Nat × Nat)} (hp : ¬ p) (hb : Below w.heap.size w w') : RetM w p L (.returned (.tuple #[.slice none 0 0, .bool false])) w' := by
  refine ⟨none, 0, ?_, ?_, hb⟩
  · rw [mcG_no hp, okG_no hp]; rfl
  · rw [mcG_no hp]; exact Reads.nil _ _
theorem infoMo : (Try.prog.info? 71).map (fun i => (i.zero, i.size, i.bytes)) = some (some (.agg #[.int .u64 0, .int .u64 0]), 2, 16) := by kernel_rfl
theorem outset_any (n : Nat) (v : Value) (w : World) (hn : n ≤ 8) :
    Calls Try.prog 86 #[.agg #[.int .i64 (n : Int), v]] w fun e w' => e = .returned (.agg #[.int .u64 0, .int .u64 (numOf (fun _ => true) n : Int)]) ∧ Below w.heap.size w w' := by
  have hsh := shl_all hn
  have hn0 : (0 : Int) ≤ (n : Int) := by omega
  obtain ⟨p0, p1, -, -⟩ := ((Blk.new w 29 #[.int .i64 (n : Int), v]).alloc (.cells #[.int .u64 0, .int .u64 0] 71)).two
  have g1 := (Blk.new (w.alloc (.cells #[.int .i64 (n : Int), v] 29)) 71 #[.int .u64 0, .int .u64 0])
  rw [World.size_alloc] at g1
  obtain ⟨q0, q1, z0, z1⟩ := g1.two
  generalize numOf (fun _ => true) n = r at *
  clear g1
  go_enter Try.func86, Try.ntmps86
  go_wp2_with fail
  refine bodyPost_ret (v := .agg #[.int .u64 0, .int .u64 (r : Int)]) (by simp [results, Try.results86, go_sem]) rfl ⟨rfl, ?_⟩
  exact ((Below.refl _ _).alloc (Nat.le_refl _) _).alloc (by simp) _
theorem prg_len {s : Int} {l : List Ed} {pl : List Int} (h : ¬ pl.length ≤ 40) : ¬ PrgOk s l pl := fun hh => h hh.2.1
set_option maxHeartbeats 2000000 in
set_option maxRecDepth 100000 in
theorem momentsOf_any (s : Int) (v u : Value) (l : List Ed) (pl : List Int) (w : World) (h : Edges w v l) (hl : l.length ≤ 1048576) (hu : Ints w u pl) (hpl : pl.length ≤ 1048576) (h64 : ∀ x ∈ pl, In64 x) :
    Calls Try.prog 63 #[.agg #[.int .i64 s, v], u] w (RetM w (PrgOk s l pl) (momC s.toNat l pl pl.length)) := by
  obtain ⟨A, c, rfl, -⟩ := h.form
  obtain ⟨A2, c2, rfl, hc2⟩ := hu.form
  have H := Lib.hid h
  have HC2 := Lib.hid hc2
  have H64 := Lib.hid h64
  have b0 : Below w.heap.size w (w.alloc (.cells #[.int .i64 s, .slice A l.length c] 29)) := (Below.refl _ _).alloc (Nat.le_refl _) _
  have g0 := Blk.new w 29 #[.int .i64 s, .slice A l.length c]
  have HG := Lib.hid (implIsGraph_any s _ l _ (h.below b0) hl)
  clear h hu hc2 h64
  by_cases hgd : P2.Good s l
  · rw [goodB_yes hgd] at HG
    have h0 := hgd.1
    have h8 := hgd.2.1
    obtain ⟨n, rfl⟩ : ∃ n : Nat, s = (n : Int) := ⟨s.toNat, by omega⟩
    rw [Int.toNat_natCast]
    have HGD := Lib.hid hgd
    have hn : n ≤ 8 := by omega
    clear hgd
    by_cases hlen : pl.length ≤ 40
    · have hlen' : ¬ ((40 : Int) < (pl.length : Int)) := by omega
      obtain ⟨i0, hi, hz0, hz1, hz2⟩ := info_parts infoMo
      go_enter Try.func63, Try.ntmps63
      go_wp2_with fail
      refine HG.out.mono ?_
      rintro e w1 ⟨rfl, b1⟩
      have e1 := btrans b0 b1
      have g1 := g0.below b1 g0.lt
      obtain ⟨p0, p1, -, -⟩ := g1.two
      clear HG b0 b1 g0
      go_wp2_with fail
      refine (closedBits_any n (.slice A l.length c) l w1 (H.out.below e1) hl HGD.out hn).mono ?_
      rintro e w2 ⟨A3, c3, rfl, i3, b3⟩
      have e2 := btrans e1 b3
      have g2 := g1.below b3 g1.lt
      clear p0 p1
      obtain ⟨p0, p1, -, -⟩ := g2.two
      have HCL := Lib.hid i3
      clear i3 b3 g1 e1
      go_wp2_with fail
      refine (outset_any n (.slice A l.length c) w2 hn).mono ?_
      rintro e w3 ⟨rfl, b4⟩
      have HE3 := Lib.hid (btrans e2 b4)
      have HCL3 := Lib.hid (HCL.out.below b4)
      clear HCL b4 e2 g2 p0 p1
      have h00 : numOf (momS pl 0) n = 0 := numOf_zero.2 fun k _ => rfl
      have h01 : numOf (momU n l pl 0) n = numOf (fun _ => true) n := rfl
      rw [← h01]
      have HP0 := Lib.hid (ProgTo.zero n pl)
      have HBA : Hid (Blk ((w3.alloc (.cells #[.int .u64 0, .int .u64 (numOf (momU n l pl 0) n : Int)] 71)).alloc (.cells #[.int .u64 0, .int .u64 (numOf (momU n l pl 0) n : Int)] 71)) w3.heap.size 71 #[.int .u64 (numOf (momS pl 0) n : Int), .int .u64 (numOf (momU n l pl 0) n : Int)]) := by
        show Blk _ _ _ _
        rw [h00]
        exact (Blk.new w3 _ _).alloc _
      have HOW : Hid (((w3.alloc (.cells #[.int .u64 0, .int .u64 (numOf (momU n l pl 0) n : Int)] 71)).alloc (.cells #[.int .u64 0, .int .u64 (numOf (momU n l pl 0) n : Int)] 71)).ownsRow (w3.heap.size + 1) 71 2 (.slice (some ⟨w3.heap.size + 1, 0, none⟩) 1 1) (momC n l pl 0).length (cellsM (momC n l pl 0))) := by
        have h_ := World.ownsRow_lit (base := w3.heap.size + 1) (e := 71) (size := 2) (w3.alloc (.cells #[.int .u64 0, .int .u64 (numOf (momU n l pl 0) n : Int)] 71)) #[.int .u64 0, .int .u64 (numOf (momU n l pl 0) n : Int)] 1 (by simp) (by unfold maxLen; omega) rfl
        rw [World.size_alloc] at h_
        have e9 : cellsM (momC n l pl 0) = [.int .u64 0, .int .u64 (numOf (momU n l pl 0) n : Int)] := by
          show cellsM [(numOf (momS pl 0) n, numOf (momU n l pl 0) n)] = _
          rw [h00]; rfl
        show World.ownsRow _ _ _ _ _ _ _
        rw [e9, momC_len]
        exact h_
      have HB0 : Hid (Below w3.heap.size w3 ((w3.alloc (.cells #[.int .u64 0, .int .u64 (numOf (momU n l pl 0) n : Int)] 71)).alloc (.cells #[.int .u64 0, .int .u64 (numOf (momU n l pl 0) n : Int)] 71))) := ((Below.refl _ _).alloc (Nat.le_refl _) _).alloc (by simp) _
      clear h00 h01
      go_wp2_with fail
      go_loopg [8, 29] pl.length (fun g ov iv wr => ∃ (k : Nat) (ow : Value), ow = ov ∧ k + g = pl.length ∧ iv = .int .i64 (k : Int) ∧ Hid (ProgTo n pl k) ∧ wr.ownsRow (w3.heap.size + 1) 71 2 ow (momC n l pl k).length (cellsM (momC n l pl k)) ∧ Blk wr w3.heap.size 71 #[.int .u64 (numOf (momS pl k) n : Int), .int .u64 (numOf (momU n l pl k) n : Int)] ∧ Below w3.heap.size w3 wr)
      case atStart => exact ⟨0, _, rfl, by omega, rfl, HP0, HOW.out, HBA.out, HB0.out⟩
      case round =>
        clear HP0 HOW HBA HB0
        obtain ⟨k, ow, rfl, hkg, rfl, hpt, hrow, hba, hB⟩ := hrel
        obtain ⟨A4, c4, rfl⟩ := own_form hrow
        cases gk with
        | zero =>
          obtain rfl : k = pl.length := by omega
          have HOK : Hid (PrgOk (n : Int) l pl) := ⟨HGD.out, hlen, by rw [Int.toNat_natCast]; exact hpt.out⟩
          have HR := Lib.hid (Reads.of_own hrow)
          have HB := Lib.hid (btrans HE3.out hB)
          clear hrow hba hB hpt
          go_wp2_with fail
          go_ret2
          exact RetM.yes HOK.out HR.out HB.out
        | succ g2 =>
          have hlt : k < pl.length := by omega
          have hlt' : (k : Int) < (pl.length : Int) := by omega
          obtain ⟨st, hst⟩ : ∃ st, pl[k]? = some st := ⟨_, List.getElem?_eq_getElem hlt⟩
          obtain ⟨ga, oa, rfl, c0⟩ := HC2.out k _ hst
          have q0 := nearv.cell_keep (nearv.cell_keep c0 HE3.out) hB
          obtain ⟨p0, p1, -, -⟩ := hba.two
          have hml := momC_len n l pl k
          have HR := Lib.hid hrow
          have HBA := Lib.hid hba
          have HB := Lib.hid hB
          by_cases ho : StepOk n (momS pl k) st
          · have HAF := Lib.hid (fun (W : World) (hW : Below w3.heap.size w3 W) => after_yes n (momS pl k) (momU n l pl k) st _ l W (HCL3.out.below hW) HGD.out hn ho)
            have HN := Lib.hid (hpt.out.succ hst ho)
            have HS9 := momS_succ hst
            rw [← HS9] at HAF
            have HC9 := Lib.hid (momC_succ n l pl k)
            have HU9 : Hid (numOf (spr n l (momS pl (k + 1)) (momU n l pl k)) n = numOf (momU n l pl (k + 1)) n) := rfl
            rw [HU9.out] at HAF
            have hm41 : (momC n l pl k).length ≤ 41 := by omega
            clear hst c0 hrow hba hB hpt ho HS9 hml
            generalize hs1 : numOf (momS pl (k + 1)) n = s1 at *
            generalize hu1 : numOf (momU n l pl (k + 1)) n = u1 at *
            have HS1 := Lib.hid hs1
            have HU1 := Lib.hid hu1
            clear hs1 hu1
            generalize numOf (momS pl k) n = s0 at *
            generalize numOf (momU n l pl k) n = u0 at *
            generalize momC n l pl k = L at *
            go_wp2_with fail
            refine (HAF.out wr HB.out).mono ?_
            rintro e w4 ⟨rfl, b4⟩
            have HR4 := Lib.hid (own_below HR.out b4)
            have HA4 := Lib.hid (HBA.out.below b4 HBA.out.lt)
            have HB4 := Lib.hid (btrans HB.out b4)
            have hs4 := HB4.out.size
            have HR5 := Lib.hid (HR4.out.alloc (.cells #[.int .u64 (s1 : Int), .int .u64 (u1 : Int)] 71))
            have HA5 := Lib.hid (HA4.out.alloc (.cells #[.int .u64 (s1 : Int), .int .u64 (u1 : Int)] 71))
            have HN5 := Lib.hid (Blk.new w4 71 #[.int .u64 (s1 : Int), .int .u64 (u1 : Int)])
            obtain ⟨n0, n1, -, -⟩ := HN5.out.two
            clear b4 p0 p1 q0
            go_wp2_with (at_builtin; refine wpList_append_own _ rfl _ _ 63 rfl (w3.heap.size + 1) 71 i0 (.agg #[.int .u64 0, .int .u64 0]) 2 16 Try.underlying63 hi hz0 hz1 hz2 rfl (by decide) _ _ _ rfl (HR5.out.alloc _) ⟨w4.heap.size + 1, 0, none⟩ 1 1 [.int .u64 (s1 : Int), .int .u64 (u1 : Int)] rfl rfl (by have h_ := cell_two_new (w4.alloc (.cells #[.int .u64 (s1 : Int), .int .u64 (u1 : Int)] 71)) (.int .u64 (s1 : Int)) (.int .u64 (u1 : Int)) 71; rw [World.size_alloc] at h_; exact h_) (fun x hx => by simp at hx; rcases hx with rfl | rfl <;> rfl) (by unfold maxLen; omega) (by omega) (by simp; omega) ?_; intro v6 w6 hown6 hgrow6 _; have bN := (HN5.out.alloc (.cells #[.int .u64 (s1 : Int), .int .u64 (u1 : Int)] 71)).grown hgrow6 (fun e => by have := (HR4.out.lt _ e.symm).2; omega); have bA := (HA5.out.alloc (.cells #[.int .u64 (s1 : Int), .int .u64 (u1 : Int)] 71)).grown hgrow6 (fun e => by have := (HR4.out.lt _ e.symm).1; omega); obtain ⟨m0, m1, -, -⟩ := bN.two; obtain ⟨a0, a1, z0, z1⟩ := bA.two)
            have HR6 : Hid (((w6.setCell ⟨w3.heap.size, 0, none⟩ (.int .u64 (s1 : Int))).setCell ⟨w3.heap.size, 1, none⟩ (.int .u64 (u1 : Int))).ownsRow (w3.heap.size + 1) 71 2 v6 (L ++ [(s1, u1)]).length (cellsM (L ++ [(s1, u1)]))) := by
              have h_ : w6.ownsRow (w3.heap.size + 1) 71 2 v6 (L ++ [(s1, u1)]).length (cellsM (L ++ [(s1, u1)])) := by
                rw [cellsM_app, List.length_append]; exact hown6
              refine h_.kept (gset (gset (World.grownBy.refl w6 (some w3.heap.size)) 0 _) 1 _) ?_
              cases hv : v6.ownBlock with
              | none => exact .inl rfl
              | some q => exact .inr fun e => by have := (h_.lt q hv).1; have : w3.heap.size = q := by simpa using e.symm
                                                 omega
            have HA6 : Hid (Blk ((w6.setCell ⟨w3.heap.size, 0, none⟩ (.int .u64 (s1 : Int))).setCell ⟨w3.heap.size, 1, none⟩ (.int .u64 (u1 : Int))) w3.heap.size 71 #[.int .u64 (s1 : Int), .int .u64 (u1 : Int)]) := by
              have h_ := (bA.set_ 0 (.int .u64 (s1 : Int))).set_ 1 (.int .u64 (u1 : Int))
              show Blk _ _ _ _
              simpa using h_
            have HB6 : Hid (Below w3.heap.size w3 ((w6.setCell ⟨w3.heap.size, 0, none⟩ (.int .u64 (s1 : Int))).setCell ⟨w3.heap.size, 1, none⟩ (.int .u64 (u1 : Int)))) :=
              (((((HB4.out.alloc hs4 (.cells #[.int .u64 (s1 : Int), .int .u64 (u1 : Int)] 71)).alloc (by simp; omega) (.cells #[.int .u64 (s1 : Int), .int .u64 (u1 : Int)] 71)).grown hgrow6 (by simp; omega) (fun j e => by have := (HR4.out.lt j e).1; omega)).setCell (p := ⟨w3.heap.size, 0, none⟩) (Nat.le_refl _) _).setCell (p := ⟨w3.heap.size, 1, none⟩) (Nat.le_refl _) _)
            clear hown6 hgrow6 bN bA m0 m1 a0 a1 z0 z1 n0 n1
            go_roundg g2
            case measure => omega
            case rel => exact ⟨k + 1, v6, rfl, by omega, by go_num, HN, by rw [HC9.out]; exact HR6.out, by rw [HS1.out, HU1.out]; exact HA6.out, HB6.out⟩
          · have HNO : Hid (¬ PrgOk (n : Int) l pl) := fun hh => by
              have h_ := hh.2.2
              rw [Int.toNat_natCast] at h_
              exact not_prog hst ho h_
            have HAF := Lib.hid (fun (W : World) (hW : Below w3.heap.size w3 W) => after_no n (momS pl k) (momU n l pl k) st _ l W (HCL3.out.below hW) hn (H64.out st (List.mem_of_getElem? hst)) ho)
            clear hst c0 hrow hba hB hpt ho hml
            generalize numOf (momS pl k) n = s0 at *
            generalize numOf (momU n l pl k) n = u0 at *
            go_wp2_with fail
            refine (HAF.out wr HB.out).mono ?_
            rintro e w4 ⟨rfl, b4⟩
            have HB4 := Lib.hid (btrans HE3.out (btrans HB.out b4))
            have hs4 := HB4.out.size
            clear b4 p0 p1 q0
            go_wp2_with fail
            go_ret2
            exact RetM.nil HNO.out (HB4.out.alloc hs4 _)
    · have hlen' : (40 : Int) < (pl.length : Int) := by omega
      have HN := Lib.hid (prg_len (s := (n : Int)) (l := l) hlen)
      clear hlen
      go_enter Try.func63, Try.ntmps63
      go_wp2_with fail
      refine HG.out.mono ?_
      rintro e w1 ⟨rfl, b1⟩
      go_wp2_with fail
      go_ret2
      exact RetM.nil HN.out (btrans b0 b1)
  · rw [goodB_no hgd] at HG
    have HN : Hid (¬ PrgOk s l pl) := fun hh => hgd hh.1
    clear hgd
    go_enter Try.func63, Try.ntmps63
    go_wp2_with fail
    refine HG.out.mono ?_
    rintro e w1 ⟨rfl, b1⟩
    go_wp2_with fail
    go_ret2
    exact RetM.nil HN.out (btrans b0 b1)
end Go.Proofs.Ytbjcfjgoedpgdaa.moms
