/- The contract of the model's l2Reach. -/
import Derived.Handy
import Derived.Test.YthgahkkjdpljjaaDoorReachM
import Derived.Test.YthgahkkjdpljjaaDoorNearV
import Derived.Deep.DeepCutAuto
import Derived.StillTailTactics
namespace Go.Proofs.YthgahkkjdpljjaaDoor.reach
open Go.RowKit P2 words edges ints good near adjs fns rets sets covs nearv balls
set_option linter.unusedVariables false

def J2 (l : List Ed) (a b : Nat) : Bool := adj l a b
set_option maxHeartbeats 8000000 in
set_option maxRecDepth 100000 in
theorem l2Reach_any (n x : Nat) (q : Nat → Bool) (v u : Value) (l : List Ed) (w : World) (h : Edges w v l) (hl : l.length ≤ 1048576) (hu : Ints w u (nw q n)) (hn8 : n ≤ 8) (hx : x < n) (hqx : q x = true) :
    Calls Tryd.prog 38 #[.agg #[.int .i64 (n : Int), v], u, .int .i64 (x : Int)] w (RowI w (nw (reachB n (J2 l) q x) n)) := by
  obtain ⟨A, c, rfl, -⟩ := h.form
  obtain ⟨A2, c2, rfl, hc2⟩ := hu.form
  have H := Lib.hid h
  have HU := Lib.hid hu
  have HC2 := Lib.hid hc2
  have HQX := Lib.hid hqx
  have hsl := nw_len q n
  have HB0 : Hid (Below w.heap.size w ((w.alloc (.cells #[.int .i64 (n : Int), .slice A l.length c] 30)).alloc (.cells #[.int .i64 (x : Int)] 3))) := ((Below.refl _ _).alloc (Nat.le_refl _) _).alloc (by simp) _
  have HG0 := Lib.hid ((Blk.new w 30 #[.int .i64 (n : Int), .slice A l.length c]).alloc (.cells #[.int .i64 (x : Int)] 3))
  have HP0 : Hid (RoundO n (J2 l) q x 0 (fun z => decide (z = x))) := RoundO.first hx
  have HE0 : Hid (nw (fun z => decide (z = x)) n = [(x : Int)]) := by
    refine (asc_ext (by unfold Asc; simp) (nw_asc _ _) fun e => ?_).symm
    rw [mem_nw]
    simp only [List.mem_singleton]
    constructor
    · rintro rfl; exact ⟨x, hx, by simp, rfl⟩
    · rintro ⟨j, hj, hp, rfl⟩
      have := of_decide_eq_true hp
      omega
  have HO0 : Hid (((w.alloc (.cells #[.int .i64 (n : Int), .slice A l.length c] 30)).alloc (.cells #[.int .i64 (x : Int)] 3)).ownsRow w.heap.size 3 1 (.slice (some ⟨w.heap.size + 1, 0, none⟩) 1 1) (nw (fun z => decide (z = x)) n).length (cellsI (nw (fun z => decide (z = x)) n))) := by
    show World.ownsRow _ _ _ _ _ _ _
    rw [HE0.out]
    have h_ := own_new1 (w.alloc (.cells #[.int .i64 (n : Int), .slice A l.length c] 30)) 3 (x : Int)
    rw [World.size_alloc] at h_
    exact own_base h_ (by omega)
  clear h hu hc2 hqx HE0
  go_enter Tryd.func38, Tryd.ntmps38
  go_wp2_with fail
  go_loopg [7, 8] (nw q n).length (fun g ov rv wr => ∃ (r : Nat) (p : Nat → Bool) (ow : Value), ow = ov ∧ r + g = (nw q n).length ∧ rv = .int .i64 (r : Int) ∧ Hid (RoundO n (J2 l) q x r p) ∧ wr.ownsRow w.heap.size 3 1 ow (nw p n).length (cellsI (nw p n)) ∧ Blk wr w.heap.size 30 #[.int .i64 (n : Int), .slice A l.length c] ∧ Below w.heap.size w wr)
  case atStart => exact ⟨0, _, _, rfl, by omega, rfl, HP0, HO0.out, HG0.out, HB0.out⟩
  case round =>
    clear HB0 HG0 HP0 HO0
    obtain ⟨r, p, ow, rfl, hrg, rfl, hro, hrow, hgb, hB⟩ := hrel
    cases gk with
    | zero =>
      obtain rfl : r = (nw q n).length := by omega
      have HALL : Hid (nw p n = nw (reachB n (J2 l) q x) n) := hro.out.all hx HQX.out
      obtain ⟨A4, c4, rfl⟩ := own_form hrow
      have HR := Lib.hid hrow
      have HB := Lib.hid hB
      clear hrow hgb hB hro
      go_wp2_with fail
      go_ret
      rw [← HALL.out]
      exact ⟨A4, c4, rfl, HR.out, HB.out⟩
    | succ g2 =>
      have hrlt : (r : Int) < ((nw q n).length : Int) := by omega
      have HI0 : Hid (RoundI n (J2 l) q x r 0 p) := hro.out.start
      have HR0 := Lib.hid hrow
      have HG0 := Lib.hid hgb
      have HB0 := Lib.hid hB
      clear hro hrow hgb hB
      go_wp2_with fail
      go_loopg [7, 9] (nw q n).length (fun g ov iv wr => ∃ (i : Nat) (p : Nat → Bool) (ow : Value), ow = ov ∧ i + g = (nw q n).length ∧ iv = .int .i64 (i : Int) ∧ Hid (RoundI n (J2 l) q x r i p) ∧ wr.ownsRow w.heap.size 3 1 ow (nw p n).length (cellsI (nw p n)) ∧ Blk wr w.heap.size 30 #[.int .i64 (n : Int), .slice A l.length c] ∧ Below w.heap.size w wr)
      case atStart => exact ⟨0, p, _, rfl, by omega, rfl, HI0, HR0.out, HG0.out, HB0.out⟩
      case round =>
        clear HI0 HR0 HG0 HB0
        obtain ⟨i, p, ow, rfl, hig, rfl, hri, hrow, hgb, hB⟩ := hrel
        cases gk with
        | zero =>
          obtain rfl : i = (nw q n).length := by omega
          have HO : Hid (RoundO n (J2 l) q x (r + 1) p) := hri.out.done
          have HR := Lib.hid hrow
          have HG := Lib.hid hgb
          have HB := Lib.hid hB
          clear hrow hgb hB hri
          go_wp2_with fail
          go_roundg g2
          case measure => omega
          case rel => exact ⟨r + 1, p, _, rfl, by omega, by go_num, HO, HR.out, HG.out, HB.out⟩
        | succ g3 =>
          have hilt : (i : Int) < ((nw q n).length : Int) := by omega
          obtain ⟨yv, hyv⟩ : ∃ yv, (nw q n)[i]? = some yv := ⟨_, List.getElem?_eq_getElem (by omega)⟩
          obtain ⟨y, rfl, hyn, hqy⟩ := nw_at hyv
          obtain ⟨g5, o5, rfl, c5⟩ := HC2.out i _ hyv
          have HY := Lib.hid hyv
          have HQY := Lib.hid hqy
          have HC5 := Lib.hid c5
          have HRI := Lib.hid hri.out
          have HR0 := Lib.hid hrow
          have HG0 := Lib.hid hgb
          have HB0 := Lib.hid hB
          clear hyv hqy c5 hri hrow hgb hB
          go_wp2_with fail
          go_loopg [7, 10] n (fun g ov kv wr => ∃ (k : Nat) (p : Nat → Bool) (ow : Value), ow = ov ∧ k + g = n ∧ kv = .int .i64 (k : Int) ∧ Hid (RoundI n (J2 l) q x r i p ∧ (p y = false → ∀ j o, j < k → (nw p n)[j]? = some o → adj l o (y : Int) = false)) ∧ wr.ownsRow w.heap.size 3 1 ow (nw p n).length (cellsI (nw p n)) ∧ Blk wr w.heap.size 30 #[.int .i64 (n : Int), .slice A l.length c] ∧ Below w.heap.size w wr)
          case atStart => exact ⟨0, p, _, rfl, by omega, rfl, ⟨HRI.out, fun _ j o hj => by omega⟩, HR0.out, HG0.out, HB0.out⟩
          case round =>
            clear HRI HR0 HG0 HB0
            obtain ⟨k, p, ow, rfl, hkg, rfl, hinv, hrow, hgb, hB⟩ := hrel
            obtain ⟨A6, c6, rfl⟩ := own_form hrow
            have hpl := nw_len p n
            have q5 := nearv.cell_keep HC5.out hB
            obtain ⟨p0, p1, -, -⟩ := hgb.two
            by_cases hk : k < (nw p n).length
            · have hk' : (k : Int) < ((nw p n).length : Int) := by omega
              have hd0 : decide ((k : Int) < ((nw p n).length : Int)) = true := decide_eq_true hk'
              have HHAS := Lib.hid (l1Has_any (.slice A6 (nw p n).length c6) (nw p n) (y : Int) wr (Reads.of_own hrow) (by omega))
              cases hpy : p y with
              | true =>
                have hm : decide ((y : Int) ∈ nw p n) = true := decide_eq_true (mem_nw.2 ⟨y, hyn, hpy, rfl⟩)
                rw [hm] at HHAS
                have HN : Hid (RoundI n (J2 l) q x r (i + 1) p) := hinv.out.1.skip HY.out (.inl hpy)
                have HR := Lib.hid hrow
                have HG := Lib.hid hgb
                have HB := Lib.hid hB
                clear hrow hgb hB hinv hm hpy
                go_wp2_with fail
                refine HHAS.out.mono ?_
                rintro e w' ⟨rfl, rfl⟩
                go_wp2_with fail
                go_roundg g3
                case measure => omega
                case rel => exact ⟨i + 1, p, _, rfl, by omega, by go_num, HN, HR.out, HG.out, HB.out⟩
              | false =>
                have hm0 : ¬ (y : Int) ∈ nw p n := by
                  intro hh
                  obtain ⟨j, _, hj, e⟩ := mem_nw.1 hh
                  have h9 : y = j := by omega
                  rw [← h9, hpy] at hj
                  cases hj
                have hm : decide ((y : Int) ∈ nw p n) = false := decide_eq_false hm0
                rw [hm] at HHAS
                cases gk with
                | zero => omega
                | succ g4 =>
                  obtain ⟨ov, hov⟩ : ∃ ov, (nw p n)[k]? = some ov := ⟨_, List.getElem?_eq_getElem hk⟩
                  obtain ⟨o, rfl, hon, hpo⟩ := nw_at hov
                  obtain ⟨_, _, hf, hcc⟩ := (show Ints wr (.slice A6 (nw p n).length c6) (nw p n) from Reads.of_own hrow).form
                  cases hf
                  obtain ⟨g6, o6, rfl, q6⟩ := hcc k _ hov
                  have HNR := Lib.hid (l2Near_any (n : Int) (o : Int) (y : Int) (.slice A l.length c) l wr.drew (H.out.below hB.drew) hl)
                  have HPUT := Lib.hid (fun (W : World) (hb : Below wr.heap.size wr W) => l1Put_own _ (nw p n) (y : Int) W w.heap.size (own_below hrow hb) (Nat.le_trans hB.size hb.size) (by omega) (nw_asc _ _))
                  have HR := Lib.hid hrow
                  have HG := Lib.hid hgb
                  have HB := Lib.hid hB
                  have HPL : Hid ((nw p n).length ≤ n) := hpl
                  cases hj : adj l (o : Int) (y : Int) with
                  | false =>
                    have HN : Hid (RoundI n (J2 l) q x r i p ∧ (p y = false → ∀ j o', j < k + 1 → (nw p n)[j]? = some o' → adj l o' (y : Int) = false)) := by
                      refine ⟨hinv.out.1, fun h9 j o' hjk ho' => ?_⟩
                      by_cases e : j = k
                      · subst e; rw [hov] at ho'; cases ho'; exact hj
                      · exact hinv.out.2 h9 j o' (by omega) ho'
                    rw [hj] at HNR
                    clear hrow hgb hB hinv hm hm0 hpy hov hpo hcc hj HPUT hpl
                    go_wp2_with fail
                    refine HHAS.out.mono ?_
                    rintro e w' ⟨rfl, rfl⟩
                    go_wp2_with fail
                    go_still_tail 9, (by kernel_rfl)
                    change wpList _ _ _ _ _ wr.drew
                    go_wp2_with fail
                    refine HNR.out.mono ?_
                    rintro e w1 ⟨rfl, b1⟩
                    have d1 : Below wr.heap.size wr w1 := (Below.refl _ _).drew.trans b1
                    have HR1 := Lib.hid (own_below HR.out d1)
                    have HG1 := Lib.hid (HG.out.below d1 HG.out.lt)
                    have HB1 := Lib.hid (btrans HB.out d1)
                    clear b1 d1
                    go_wp2_with fail
                    go_roundg g4
                    case measure => omega
                    case rel => exact ⟨k + 1, p, _, rfl, by omega, by go_num, HN, HR1.out, HG1.out, HB1.out⟩
                  | true =>
                    have HN := Lib.hid (hinv.out.1.put hyn HQY.out hpy hon hpo hj)
                    have HPT : Hid (pput p y y = true) := by show _ = _; simp [pput]
                    rw [hj] at HNR
                    clear hrow hgb hB hinv hm hm0 hpy hov hpo hcc hj hpl
                    go_wp2_with fail
                    refine HHAS.out.mono ?_
                    rintro e w' ⟨rfl, rfl⟩
                    go_wp2_with fail
                    go_still_tail 9, (by kernel_rfl)
                    change wpList _ _ _ _ _ wr.drew
                    go_wp2_with fail
                    refine HNR.out.mono ?_
                    rintro e w1 ⟨rfl, b1⟩
                    have d1 : Below wr.heap.size wr w1 := (Below.refl _ _).drew.trans b1
                    have HP1 := Lib.hid (HPUT.out w1 d1)
                    have HG1 := Lib.hid (HG.out.below d1 HG.out.lt)
                    have HB1 := Lib.hid (btrans HB.out d1)
                    have q7 := nearv.cell_keep HC5.out HB1.out
                    clear b1 d1 q5
                    go_wp2_with fail
                    refine HP1.out.mono ?_
                    rintro e w2 ⟨L, A7, c7, rfl, hp7, o7, b7⟩
                    have HL := Lib.hid (pput_is hp7 hyn)
                    have HG2 := Lib.hid (HG1.out.below b7 HG1.out.lt)
                    have HB2 := Lib.hid (btrans HB1.out b7)
                    have HO7 := Lib.hid o7
                    clear b7 hp7 o7
                    go_wp2_with fail
                    go_roundg g4
                    case measure => omega
                    case rel => exact ⟨k + 1, pput p y, _, rfl, by omega, by go_num, ⟨HN.out, fun h9 => by rw [HPT.out] at h9; cases h9⟩, by rw [← HL.out]; exact HO7.out, HG2.out, HB2.out⟩
            · have HN : Hid (RoundI n (J2 l) q x r (i + 1) p) := hinv.out.1.skip HY.out (by
                cases hpy : p y with
                | true => exact .inl hpy
                | false =>
                  refine .inr fun o ho hpo => ?_
                  obtain ⟨j, hj, hjo⟩ := at_nw hpo ho
                  exact hinv.out.2 hpy j _ (by omega) hjo)
              have hd0 : decide ((k : Int) < ((nw p n).length : Int)) = false := decide_eq_false (by omega)
              have hk' : ¬ (k : Int) < ((nw p n).length : Int) := by omega
              have HR := Lib.hid hrow
              have HG := Lib.hid hgb
              have HB := Lib.hid hB
              clear hrow hgb hB hinv
              go_wp2_with fail
              go_roundg g3
              case measure => omega
              case rel => exact ⟨i + 1, p, _, rfl, by omega, by go_num, HN, HR.out, HG.out, HB.out⟩
end Go.Proofs.YthgahkkjdpljjaaDoor.reach
