/- The contract of the program's distancesFrom. -/
import Derived.Handy
import Derived.Test.YtphlpipbhaiijaaDist
import Derived.Test.YtphlpipbhaiijaaQueue
import Derived.Test.YtphlpipbhaiijaaRepeat
import Derived.Test.YtphlpipbhaiijaaNearV
import Derived.Test.YtphlpipbhaiijaaSets
namespace Go.Proofs.Ytphlpipbhaiijaa.distf
open Go.RowKit P2 words edges ints good near adjs fns rets nearv sets queue reps
set_option linter.unusedVariables false

/-- how many are not found yet -/
def und (D : List Int) : Nat := D.countP fun d => decide (d < 0)
theorem und_set {D : List Int} {y : Nat} {d u : Int} (h : D[y]? = some d) (hd : d < 0) (hu : 0 ≤ u) : und (D.set y u) + 1 = und D := by
  induction D generalizing y with
  | nil => simp at h
  | cons a D ih =>
    cases y with
    | zero =>
      simp at h
      subst h
      simp [und, hd, show ¬ u < 0 from by omega]
    | succ y =>
      have := ih (y := y) (by simpa using h)
      simp only [und, List.set_cons_succ, List.countP_cons] at this ⊢
      omega
theorem und_le (D : List Int) : und D ≤ D.length := List.countP_le_length
def nodes (Q : List Nat) : List Int := Q.map fun q : Nat => (q : Int)
theorem nodes_len (Q : List Nat) : (nodes Q).length = Q.length := by simp [nodes]
theorem cells_set (D : List Int) (y : Nat) (u : Int) : (cellsI D).set y (.int .i64 u) = cellsI (D.set y u) := by simp [cellsI, List.map_set]
def J0 (l : List Ed) (a b : Nat) : Bool := adj l a b

/-- what distancesFrom holds between its rounds -/
def Hold (w wr : World) (n gd c1 : Nat) (qv : Value) (D : List Int) (Q : List Nat) : Prop :=
  D.length = n ∧ Queue wr w.heap.size 3 qv Q.length (cellsI (nodes Q)) ∧ wr.ownsRow w.heap.size 3 1 (.slice (some ⟨gd, 0, none⟩) n c1) n (cellsI D) ∧ Below w.heap.size w wr ∧ qv.ownBlock ≠ some gd

set_option maxHeartbeats 2000000 in
set_option maxRecDepth 100000 in
theorem distF_any (n x c : Nat) (l : List Ed) (w : World) (hg : P2.Good (n : Int) l) (hN : NearIs w c l) (hx : x < n) :
    Calls Try.prog 124 #[.int .i64 (n : Int), .func (.func 159) #[] #[.pointer (some ⟨c, 0, none⟩)], .int .i64 (x : Int)] w (RowI w (dist n (J0 l) x)) := by
  obtain ⟨i0, hi, hz0, hz1, hz2⟩ := info_parts infoInt
  have hn8 : n ≤ 8 := by have := hg.2.1; omega
  have e_w := Below.refl w.heap.size w
  have HR := Lib.hid (repeat_any (-1) w.heap.size n (w.alloc (.cells #[.int .i64 (-1)] 3)) hn8 (by omega) ((Blk.new w 3 #[.int .i64 (-1)]).cell 0))
  have HNR := Lib.hid hN
  have HG := Lib.hid hg
  have hx' : (x : Int) < (n : Int) := by omega
  clear hN hg
  go_enter Try.func124, Try.ntmps124
  go_wp2_with fail
  refine HR.out.mono ?_
  rintro e w1 ⟨A1, c1, rfl, o1, b1⟩
  have hlr : (List.replicate n (-1 : Int)).length = n := List.length_replicate
  rw [hlr] at o1 ⊢
  obtain ⟨gd, cap, hf⟩ : ∃ g cap, Value.slice A1 n c1 = .slice (some ⟨g, 0, none⟩) n cap := by
    rcases o1.2 with ⟨hf, h0⟩ | ⟨g, cap, cur, hf, _⟩
    · omega
    · exact ⟨g, cap, hf⟩
  obtain ⟨rfl, rfl⟩ : A1 = some ⟨gd, 0, none⟩ ∧ c1 = cap := by simpa using hf
  have e_w1 : Below w.heap.size w w1 := btrans (by have hz_ := (e_w).size; have hb_ := e_w; go_grown) b1
  have O1 := own_base (B' := w.heap.size) o1 (by simp)
  have hgd := O1.lt gd rfl
  have f0 := O1.cellAt x (by simpa using hx)
  have f1 : (cellsI (List.replicate n (-1 : Int)))[x]? = some (.int .i64 (-1)) := by simp [cellsI, hx]
  rw [f1] at f0
  have z0 := O1.frozenAt x
  have hst := (O1.stored x (.int .i64 0)).1
  rw [cells_set] at hst
  have H0 : Hid (Hold w ((w1.setCell ⟨gd, x, none⟩ (.int .i64 0)).alloc (.cells #[.int .i64 (x : Int)] 3)) n gd c1 (.slice (some ⟨w1.heap.size, 0, none⟩) 1 1) ((List.replicate n (-1)).set x 0) [x]) := by
    have hs1 : (w1.setCell ⟨gd, x, none⟩ (.int .i64 0)).heap.size = w1.heap.size := by simp [World.setCell]
    refine ⟨by simp, ?_, hst.alloc _, (e_w1.setCell hgd.1 _).alloc (by rw [hs1]; exact e_w1.size) _, by simp [Value.ownBlock]; omega⟩
    have := Queue.start (w1.setCell ⟨gd, x, none⟩ (.int .i64 0)) 3 (.int .i64 (x : Int))
    rw [hs1] at this
    exact this.base e_w1.size
  have HB0 : Hid (IsBfs n (J0 l) x (fn ((List.replicate n (-1)).set x 0)) [x]) := by
    refine IsBfs.start (J0 l) hx _ ?_ ?_
    · rw [fn_set (by simpa using hx), if_pos rfl]
    · intro y hy hne
      rw [fn_set (by simpa using hx), if_neg hne]
      simp [fn, List.getD_eq_getElem?_getD, hy]
  have HU0 : Hid (und ((List.replicate n (-1)).set x 0) + [x].length ≤ n) := by
    have := und_set (D := List.replicate n (-1)) (y := x) (d := -1) (u := 0) (by simp [hx]) (by decide) (by decide)
    have h2 := und_le (List.replicate n (-1))
    simp only [List.length_replicate, List.length_singleton] at *
    show _ ≤ _
    omega
  clear HR o1 O1 f1 hst hf hlr b1 e_w1
  go_wp2_with fail
  go_loopg [8] n (fun g qv wr => ∃ (D : List Int) (Q : List Nat), g ≤ n ∧ Hold w wr n gd c1 qv D Q ∧ Hid (IsBfs n (J0 l) x (fn D) Q) ∧ Hid (und D + Q.length ≤ g))
  case atStart => exact ⟨_, _, Nat.le_refl _, H0.out, HB0, HU0⟩
  case round =>
    obtain ⟨D, Q, hgn, hold, hbfs, hund⟩ := hrel
    obtain ⟨hD, hq, hrow, hB, hne⟩ := hold
    cases Q with
    | nil =>
      obtain ⟨g, off, cap, cur, rfl, rest⟩ := hq
      have HE : Hid (dist n (J0 l) x = D) := dist_eq hD hbfs.out.done
      have HD := Lib.hid hD
      have HROW := Lib.hid hrow
      clear rest hD hrow hne
      go_wp2_with fail
      go_ret
      rw [HE.out]
      exact ⟨some ⟨gd, 0, none⟩, c1, by rw [HD.out]; rfl, by rw [HD.out]; exact HROW.out, hB⟩
    | cons a Q =>
      cases gk with
      | zero => have := hund.out; simp at this
      | succ g2 =>
        obtain ⟨g, off, cap, rfl, q0, hq2⟩ := Queue.head (x := .int .i64 (a : Int)) (xs := cellsI (nodes Q)) hq
        have ha := (hbfs.out.inq a (by simp)).1
        have ha' : (a : Int) < (n : Int) := by omega
        have HL0 : Hid (IsLook n (J0 l) x a 0 (fn D) Q) := hbfs.out.look
        have HU : Hid (und D + Q.length ≤ g2) := by have := hund.out; simp at this; show _ ≤ _; omega
        have hne2 : (Value.slice (some ⟨g, if cap = 0 then off else off + 1, none⟩) Q.length cap).ownBlock ≠ some gd := hne
        have H1 : Hid (Hold w wr n gd c1 (.slice (some ⟨g, if cap = 0 then off else off + 1, none⟩) Q.length cap) D Q) := ⟨hD, hq2, hrow, hB, hne2⟩
        have hqp : (0 : Int) < ((Q.length + 1 : Nat) : Int) := by omega
        clear hD hq hrow hB hne hne2 hq2 hbfs hund
        by_cases hc0 : cap = 0
        · subst hc0
          simp only [if_true] at H1
          go_wp2_with fail
          go_loopg [8, 28] n (fun g3 qv i wr => ∃ (y : Nat) (D : List Int) (Q : List Nat) (v : Value), v = qv ∧ y + g3 = n ∧ i = .int .i64 (y : Int) ∧ Hold w wr n gd c1 v D Q ∧ Hid (IsLook n (J0 l) x a y (fn D) Q) ∧ Hid (und D + Q.length ≤ g2))
          case atStart => exact ⟨0, D, Q, _, rfl, by omega, rfl, H1.out, HL0, HU⟩
          case round =>
            clear H1 HL0 HU q0
            obtain ⟨y, D, Q, qv, rfl, hyg, rfl, hold, hlook, hund⟩ := hrel
            cases gk with
            | zero =>
              obtain rfl : y = n := by omega
              have HB : Hid (IsBfs y (J0 l) x (fn D) Q) := hlook.out.done
              have HH := Lib.hid hold
              clear hold
              go_wp2_with fail
              go_roundg g2
              case measure => omega
              case rel => exact ⟨D, Q, by omega, HH.out, HB, hund⟩
            | succ g4 =>
              have hy : y < n := by omega
              have hy' : (y : Int) < (n : Int) := by omega
              have HH := Lib.hid hold
              obtain ⟨hD, hq, hrow, hB, hne⟩ := hold
              have HNA := Lib.hid (near_adj (a : Int) (y : Int) (n : Int) c l wr HG.out (HNR.out.below hB) (in64_small (by omega) (by omega)) (in64_small (by omega) (by omega)))
              obtain ⟨da, hda⟩ : ∃ da, D[a]? = some da := ⟨_, List.getElem?_eq_getElem (by omega)⟩
              obtain ⟨dy, hdy⟩ : ∃ dy, D[y]? = some dy := ⟨_, List.getElem?_eq_getElem (by omega)⟩
              have ca := hrow.cellAt a (by omega)
              have cy := hrow.cellAt y (by omega)
              rw [cellsI_at hda] at ca
              rw [cellsI_at hdy] at cy
              have zy := hrow.frozenAt y
              have hfa := fn_at hda
              have hfy := fn_at hdy
              have hda0 : 0 ≤ da := by have := hlook.out.here.2; omega
              have hda8 : da ≤ 8 := by
                have := dist_small hlook.out.back ha
                omega
              have HFA := Lib.hid hfa
              have HFY := Lib.hid hfy
              have HDY := Lib.hid hdy
              have hgd := hrow.lt gd rfl
              clear hq hD hda hdy hfa hfy
              cases hj : adj l (a : Int) (y : Int) with
              | false =>
                rw [hj] at HNA
                have HS : Hid (IsLook n (J0 l) x a (y + 1) (fn D) Q) := hlook.out.skip (fun hh => by have := hh.1; unfold J0 at this; rw [hj] at this; cases this)
                clear hj hrow hne
                go_wp2_with fail
                refine HNA.out.mono ?_
                rintro e w' ⟨rfl, rfl⟩
                go_wp2_with fail
                go_roundg g4
                case measure => omega
                case rel => exact ⟨y + 1, D, Q, _, rfl, by omega, by go_num, HH.out, HS, hund⟩
              | true =>
                rw [hj] at HNA
                have HJ := Lib.hid hj
                clear hj
                by_cases hneg : dy < 0
                · have hneg' : decide (dy < 0) = true := by simpa using hneg
                  have hD := HH.out.1
                  have HPUT : Hid (IsLook n (J0 l) x a (y + 1) (fn (D.set y (da + 1))) (Q ++ [y])) := by
                    have := hlook.out.put hy HJ.out (by rw [HFY.out]; exact hneg)
                    rw [HFA.out] at this
                    have e : fn (D.set y (da + 1)) = fun z => if z = y then da + 1 else fn D z := by
                      funext z; exact fn_set (by omega) _ z
                    show IsLook _ _ _ _ _ _ _
                    rw [e]; exact this
                  have HUN : Hid (und (D.set y (da + 1)) + (Q ++ [y]).length ≤ g2) := by
                    have h1 := und_set (u := da + 1) HDY.out hneg (by omega)
                    have h2 := hund.out
                    simp only [List.length_append, List.length_singleton]
                    show _ ≤ _
                    omega
                  have hst := (hrow.stored y (.int .i64 (da + 1))).1
                  rw [cells_set] at hst
                  have HST := Lib.hid hst
                  have hqs : Queue (wr.setCell ⟨gd, y, none⟩ (.int .i64 (da + 1))) w.heap.size 3 qv Q.length (cellsI (nodes Q)) := HH.out.2.1.kept (gset (World.grownBy.refl wr (some gd)) y _) hne
                  have hqa : Queue ((wr.setCell ⟨gd, y, none⟩ (.int .i64 (da + 1))).alloc (.cells #[.int .i64 (y : Int)] 3)) w.heap.size 3 qv Q.length (cellsI (nodes Q)) := hqs.below ((Below.refl _ _).alloc (Nat.le_refl _) _)
                  have HQA := Lib.hid hqa
                  have hQn : Q.length ≤ 8 := by
                    have := hund.out
                    omega
                  have hne' := HH.out.2.2.2.2
                  have hqlt := HH.out.2.1.lt
                  obtain ⟨qg, qo, qc, hqf⟩ : ∃ g o c, qv = .slice (some ⟨g, o, none⟩) Q.length c := by obtain ⟨g, o, c, cur, e, _⟩ := HH.out.2.1; exact ⟨g, o, c, e⟩
                  subst hqf
                  have hs1 : (wr.setCell ⟨gd, y, none⟩ (.int .i64 (da + 1))).heap.size = wr.heap.size := by simp [World.setCell]
                  have HCE : Hid (((wr.setCell ⟨gd, y, none⟩ (.int .i64 (da + 1))).alloc (.cells #[.int .i64 (y : Int)] 3)).cell? ⟨wr.heap.size, 0, none⟩ = some (.int .i64 (y : Int))) := by
                    have := (Blk.new (wr.setCell ⟨gd, y, none⟩ (.int .i64 (da + 1))) 3 #[.int .i64 (y : Int)]).cell 0
                    rw [hs1] at this
                    exact this
                  have HB3 : Hid (Below w.heap.size w ((wr.setCell ⟨gd, y, none⟩ (.int .i64 (da + 1))).alloc (.cells #[.int .i64 (y : Int)] 3))) := (hB.setCell hgd.1 _).alloc (by rw [hs1]; exact hB.size) _
                  have HSZ : Hid (w.heap.size ≤ ((wr.setCell ⟨gd, y, none⟩ (.int .i64 (da + 1))).alloc (.cells #[.int .i64 (y : Int)] 3)).heap.size) := HB3.out.size
                  have hda1 : (0 : Int) ≤ da + 1 := by omega
                  have HS1 := Lib.hid hs1
                  have HNE := Lib.hid hne'
                  have HQL := Lib.hid hqlt
                  have HGD := Lib.hid hgd
                  have HDL := Lib.hid hD
                  clear hst hqs hqa hneg hrow hne hne' hs1 hD hgd hqlt HJ
                  go_wp2_with fail
                  refine HNA.out.mono ?_
                  rintro e w' ⟨rfl, rfl⟩
                  go_wp2_with (at_builtin; refine wpList_append_queue rfl _ _ 25 3 rfl w.heap.size i0 (.int .i64 0) 8 Try.underlying25 hi hz0 hz1 hz2 rfl _ Q.length _ rfl HQA.out ⟨wr.heap.size, 0, none⟩ 1 (.int .i64 (y : Int)) rfl HCE.out rfl (by unfold maxLen; omega) (by omega) HSZ.out ?_; intro v2 w2 hq2 hg2 hl2)
                  have HQ2 : Hid (Queue w2 w.heap.size 3 v2 (Q ++ [y]).length (cellsI (nodes (Q ++ [y])))) := by
                    show Queue _ _ _ _ _ _
                    rw [List.length_append, List.length_singleton, show nodes (Q ++ [y]) = nodes Q ++ [(y : Int)] from by simp [nodes], cellsI_app]
                    exact hq2
                  have HO2 := Lib.hid ((HST.out.alloc (.cells #[.int .i64 (y : Int)] 3)).kept hg2 (.inr (fun e => HNE.out e.symm)))
                  have HB2 := Lib.hid (HB3.out.grown hg2 HSZ.out (fun j e => (HQL.out j e).1))
                  have HN2 : Hid (v2.ownBlock ≠ some gd) := by
                    show _ ≠ _
                    rcases hl2 with h | h
                    · rw [h]; exact HNE.out
                    · rw [h]; have := HGD.out.2; have := HS1.out; simp at *; omega
                  clear hq2 hg2 hl2 HQA HCE HB3 HSZ
                  go_roundg g4
                  case measure => omega
                  case rel => exact ⟨y + 1, D.set y (da + 1), Q ++ [y], _, rfl, by omega, by go_num, ⟨by rw [List.length_set]; exact HDL.out, HQ2.out, HO2.out, HB2.out, HN2.out⟩, HPUT, HUN⟩
                · have HS : Hid (IsLook n (J0 l) x a (y + 1) (fn D) Q) := hlook.out.skip (fun hh => hneg (by have := hh.2; rw [HFY.out] at this; exact this))
                  have hneg' : decide (dy < 0) = false := by simpa using hneg
                  clear hrow hne hneg
                  go_wp2_with fail
                  refine HNA.out.mono ?_
                  rintro e w' ⟨rfl, rfl⟩
                  go_wp2_with fail
                  go_roundg g4
                  case measure => omega
                  case rel => exact ⟨y + 1, D, Q, _, rfl, by omega, by go_num, HH.out, HS, hund⟩
        · simp only [hc0, if_false] at H1
          go_wp2_with fail
          go_loopg [8, 28] n (fun g3 qv i wr => ∃ (y : Nat) (D : List Int) (Q : List Nat) (v : Value), v = qv ∧ y + g3 = n ∧ i = .int .i64 (y : Int) ∧ Hold w wr n gd c1 v D Q ∧ Hid (IsLook n (J0 l) x a y (fn D) Q) ∧ Hid (und D + Q.length ≤ g2))
          case atStart => exact ⟨0, D, Q, _, rfl, by omega, rfl, H1.out, HL0, HU⟩
          case round =>
            clear H1 HL0 HU q0
            obtain ⟨y, D, Q, qv, rfl, hyg, rfl, hold, hlook, hund⟩ := hrel
            cases gk with
            | zero =>
              obtain rfl : y = n := by omega
              have HB : Hid (IsBfs y (J0 l) x (fn D) Q) := hlook.out.done
              have HH := Lib.hid hold
              clear hold
              go_wp2_with fail
              go_roundg g2
              case measure => omega
              case rel => exact ⟨D, Q, by omega, HH.out, HB, hund⟩
            | succ g4 =>
              have hy : y < n := by omega
              have hy' : (y : Int) < (n : Int) := by omega
              have HH := Lib.hid hold
              obtain ⟨hD, hq, hrow, hB, hne⟩ := hold
              have HNA := Lib.hid (near_adj (a : Int) (y : Int) (n : Int) c l wr HG.out (HNR.out.below hB) (in64_small (by omega) (by omega)) (in64_small (by omega) (by omega)))
              obtain ⟨da, hda⟩ : ∃ da, D[a]? = some da := ⟨_, List.getElem?_eq_getElem (by omega)⟩
              obtain ⟨dy, hdy⟩ : ∃ dy, D[y]? = some dy := ⟨_, List.getElem?_eq_getElem (by omega)⟩
              have ca := hrow.cellAt a (by omega)
              have cy := hrow.cellAt y (by omega)
              rw [cellsI_at hda] at ca
              rw [cellsI_at hdy] at cy
              have zy := hrow.frozenAt y
              have hfa := fn_at hda
              have hfy := fn_at hdy
              have hda0 : 0 ≤ da := by have := hlook.out.here.2; omega
              have hda8 : da ≤ 8 := by
                have := dist_small hlook.out.back ha
                omega
              have HFA := Lib.hid hfa
              have HFY := Lib.hid hfy
              have HDY := Lib.hid hdy
              have hgd := hrow.lt gd rfl
              clear hq hD hda hdy hfa hfy
              cases hj : adj l (a : Int) (y : Int) with
              | false =>
                rw [hj] at HNA
                have HS : Hid (IsLook n (J0 l) x a (y + 1) (fn D) Q) := hlook.out.skip (fun hh => by have := hh.1; unfold J0 at this; rw [hj] at this; cases this)
                clear hj hrow hne
                go_wp2_with fail
                refine HNA.out.mono ?_
                rintro e w' ⟨rfl, rfl⟩
                go_wp2_with fail
                go_roundg g4
                case measure => omega
                case rel => exact ⟨y + 1, D, Q, _, rfl, by omega, by go_num, HH.out, HS, hund⟩
              | true =>
                rw [hj] at HNA
                have HJ := Lib.hid hj
                clear hj
                by_cases hneg : dy < 0
                · have hneg' : decide (dy < 0) = true := by simpa using hneg
                  have hD := HH.out.1
                  have HPUT : Hid (IsLook n (J0 l) x a (y + 1) (fn (D.set y (da + 1))) (Q ++ [y])) := by
                    have := hlook.out.put hy HJ.out (by rw [HFY.out]; exact hneg)
                    rw [HFA.out] at this
                    have e : fn (D.set y (da + 1)) = fun z => if z = y then da + 1 else fn D z := by
                      funext z; exact fn_set (by omega) _ z
                    show IsLook _ _ _ _ _ _ _
                    rw [e]; exact this
                  have HUN : Hid (und (D.set y (da + 1)) + (Q ++ [y]).length ≤ g2) := by
                    have h1 := und_set (u := da + 1) HDY.out hneg (by omega)
                    have h2 := hund.out
                    simp only [List.length_append, List.length_singleton]
                    show _ ≤ _
                    omega
                  have hst := (hrow.stored y (.int .i64 (da + 1))).1
                  rw [cells_set] at hst
                  have HST := Lib.hid hst
                  have hqs : Queue (wr.setCell ⟨gd, y, none⟩ (.int .i64 (da + 1))) w.heap.size 3 qv Q.length (cellsI (nodes Q)) := HH.out.2.1.kept (gset (World.grownBy.refl wr (some gd)) y _) hne
                  have hqa : Queue ((wr.setCell ⟨gd, y, none⟩ (.int .i64 (da + 1))).alloc (.cells #[.int .i64 (y : Int)] 3)) w.heap.size 3 qv Q.length (cellsI (nodes Q)) := hqs.below ((Below.refl _ _).alloc (Nat.le_refl _) _)
                  have HQA := Lib.hid hqa
                  have hQn : Q.length ≤ 8 := by
                    have := hund.out
                    omega
                  have hne' := HH.out.2.2.2.2
                  have hqlt := HH.out.2.1.lt
                  obtain ⟨qg, qo, qc, hqf⟩ : ∃ g o c, qv = .slice (some ⟨g, o, none⟩) Q.length c := by obtain ⟨g, o, c, cur, e, _⟩ := HH.out.2.1; exact ⟨g, o, c, e⟩
                  subst hqf
                  have hs1 : (wr.setCell ⟨gd, y, none⟩ (.int .i64 (da + 1))).heap.size = wr.heap.size := by simp [World.setCell]
                  have HCE : Hid (((wr.setCell ⟨gd, y, none⟩ (.int .i64 (da + 1))).alloc (.cells #[.int .i64 (y : Int)] 3)).cell? ⟨wr.heap.size, 0, none⟩ = some (.int .i64 (y : Int))) := by
                    have := (Blk.new (wr.setCell ⟨gd, y, none⟩ (.int .i64 (da + 1))) 3 #[.int .i64 (y : Int)]).cell 0
                    rw [hs1] at this
                    exact this
                  have HB3 : Hid (Below w.heap.size w ((wr.setCell ⟨gd, y, none⟩ (.int .i64 (da + 1))).alloc (.cells #[.int .i64 (y : Int)] 3))) := (hB.setCell hgd.1 _).alloc (by rw [hs1]; exact hB.size) _
                  have HSZ : Hid (w.heap.size ≤ ((wr.setCell ⟨gd, y, none⟩ (.int .i64 (da + 1))).alloc (.cells #[.int .i64 (y : Int)] 3)).heap.size) := HB3.out.size
                  have hda1 : (0 : Int) ≤ da + 1 := by omega
                  have HS1 := Lib.hid hs1
                  have HNE := Lib.hid hne'
                  have HQL := Lib.hid hqlt
                  have HGD := Lib.hid hgd
                  have HDL := Lib.hid hD
                  clear hst hqs hqa hneg hrow hne hne' hs1 hD hgd hqlt HJ
                  go_wp2_with fail
                  refine HNA.out.mono ?_
                  rintro e w' ⟨rfl, rfl⟩
                  go_wp2_with (at_builtin; refine wpList_append_queue rfl _ _ 25 3 rfl w.heap.size i0 (.int .i64 0) 8 Try.underlying25 hi hz0 hz1 hz2 rfl _ Q.length _ rfl HQA.out ⟨wr.heap.size, 0, none⟩ 1 (.int .i64 (y : Int)) rfl HCE.out rfl (by unfold maxLen; omega) (by omega) HSZ.out ?_; intro v2 w2 hq2 hg2 hl2)
                  have HQ2 : Hid (Queue w2 w.heap.size 3 v2 (Q ++ [y]).length (cellsI (nodes (Q ++ [y])))) := by
                    show Queue _ _ _ _ _ _
                    rw [List.length_append, List.length_singleton, show nodes (Q ++ [y]) = nodes Q ++ [(y : Int)] from by simp [nodes], cellsI_app]
                    exact hq2
                  have HO2 := Lib.hid ((HST.out.alloc (.cells #[.int .i64 (y : Int)] 3)).kept hg2 (.inr (fun e => HNE.out e.symm)))
                  have HB2 := Lib.hid (HB3.out.grown hg2 HSZ.out (fun j e => (HQL.out j e).1))
                  have HN2 : Hid (v2.ownBlock ≠ some gd) := by
                    show _ ≠ _
                    rcases hl2 with h | h
                    · rw [h]; exact HNE.out
                    · rw [h]; have := HGD.out.2; have := HS1.out; simp at *; omega
                  clear hq2 hg2 hl2 HQA HCE HB3 HSZ
                  go_roundg g4
                  case measure => omega
                  case rel => exact ⟨y + 1, D.set y (da + 1), Q ++ [y], _, rfl, by omega, by go_num, ⟨by rw [List.length_set]; exact HDL.out, HQ2.out, HO2.out, HB2.out, HN2.out⟩, HPUT, HUN⟩
                · have HS : Hid (IsLook n (J0 l) x a (y + 1) (fn D) Q) := hlook.out.skip (fun hh => hneg (by have := hh.2; rw [HFY.out] at this; exact this))
                  have hneg' : decide (dy < 0) = false := by simpa using hneg
                  clear hrow hne hneg
                  go_wp2_with fail
                  refine HNA.out.mono ?_
                  rintro e w' ⟨rfl, rfl⟩
                  go_wp2_with fail
                  go_roundg g4
                  case measure => omega
                  case rel => exact ⟨y + 1, D, Q, _, rfl, by omega, by go_num, HH.out, HS, hund⟩
end Go.Proofs.Ytphlpipbhaiijaa.distf
