/- Brambles: the contract of the program's brambleOf. -/
import Derived.Handy
import Derived.Test.YthgahkkjdpljjaaDoorBrmM
import Derived.Test.YthgahkkjdpljjaaDoorJoiI
import Derived.Test.YthgahkkjdpljjaaDoorGridR
import Derived.Test.YthgahkkjdpljjaaDoorOwn
import Derived.Maps.AppendAt
import Derived.Deep.DeepCutAuto
import Derived.Deep.RegionHeld3
import Derived.Deep.QuietTactic
namespace Go.Proofs.YthgahkkjdpljjaaDoor.joins
open Go.RowKit P2 words edges ints owns good adjs fns sets rets covs bags bitsI ups func gridr least
set_option linter.unusedVariables false

/-- what brambleOf returns: the different sets and true, or false -/
def RetBr (w : World) (s : Int) (l : List Ed) (q : List (List Int)) (e : Ending) (w' : World) : Prop :=
  ∃ A N c, e = .returned (.tuple #[.slice A N c, .bool (okG (BramP s l q))]) ∧ (BramP s l q → N = (ddN q).length ∧ w'.ownsRow w.heap.size 57 1 (.slice A N c) N (cellsU (ddN q))) ∧ Below w.heap.size w w'
theorem RetBr.no {w w' : World} {s : Int} {l : List Ed} {q : List (List Int)} (h : ¬ BramP s l q) (hb : Below w.heap.size w w') : RetBr w s l q (.returned (.tuple #[.slice none 0 0, .bool false])) w' :=
  ⟨none, 0, 0, by rw [okG_no h], fun h2 => absurd h2 h, hb⟩
theorem cellsU_appJ (l m : List Nat) : cellsU (l ++ m) = cellsU l ++ cellsU m := by simp [cellsU]
set_option maxHeartbeats 8000000 in
set_option maxRecDepth 100000 in
theorem brambleOf_any (s : Int) (v : Value) (A2 : Option Addr) (c2 : Nat) (us : List Value) (q : List (List Int)) (l : List Ed) (w : World) (h : Edges w v l) (hl : l.length ≤ 1048576) (ht : ReadsG w (.slice A2 q.length c2) us q) (hql : q.length ≤ 1048576) (hqr : ∀ r ∈ q, r.length ≤ 1048576) (hE : Env w) :
    Calls Tryd.prog 18 #[.agg #[.int .i64 s, v], .slice A2 q.length c2] w (RetBr w s l q) := by
  obtain ⟨A, c, rfl, -⟩ := h.form
  obtain ⟨i0, hi, hz0, hz1, hz2⟩ := info_parts infoU
  have H := Lib.hid h
  have HT := Lib.hid ht
  have HENV := Lib.hid hE
  have b0 : Below w.heap.size w (w.alloc (.cells #[.int .i64 s, .slice A l.length c] 30)) := (Below.refl _ _).alloc (Nat.le_refl _) _
  have g0 := Blk.new w 30 #[.int .i64 s, .slice A l.length c]
  obtain ⟨p0, p1, -, -⟩ := g0.two
  have HN := Lib.hid (implIsGraph_any s _ l _ (h.below b0) hl)
  have HB0 := Lib.hid b0
  have HG0 := Lib.hid g0
  clear h b0 g0 ht hE
  by_cases hgd : P2.Good s l
  · rw [goodB_yes hgd] at HN
    have HOK := Lib.hid hgd
    have h0 := hgd.1
    have h8 := hgd.2.1
    obtain ⟨n, rfl⟩ : ∃ n : Nat, s = (n : Int) := ⟨s.toNat, by omega⟩
    have hn : n ≤ 8 := by omega
    have HIF := Lib.hid (bramP_is (q := q) hgd)
    by_cases hq0 : q = []
    · subst hq0
      have HF : Hid (¬ BramP (n : Int) l []) := fun h => (HIF.out.1 h).1.1 rfl
      clear hgd
      go_enter Tryd.func18, Tryd.ntmps18
      go_wp2_with fail
      refine HN.out.mono ?_
      rintro e w1 ⟨rfl, b1⟩
      have HE1 := Lib.hid (btrans HB0.out b1)
      clear p0 p1 b1
      go_wp2_with fail
      go_ret2
      exact RetBr.no HF.out HE1.out
    have hqp : 0 < q.length := List.length_pos_iff.2 hq0
    have hqe : ((q.length : Int) == 0) = false := by rw [beq_eq_false_iff_ne]; omega
    have HQ0 := Lib.hid hq0
    have HS := Lib.hid (fun (xs : List Int) (u : Value) (W : World) (hW : Below w.heap.size w W) (hu : Ints W u xs) (hx : xs.length ≤ 1048576) => hasSet_any (n : Int) (.slice A l.length c) u l xs W (H.out.below hW) hl hu hx)
    have HBO := Lib.hid (fun (xs : List Int) (u : Value) (W : World) (hu : Ints W u xs) (hx : xs.length ≤ 1048576) (hr : ∀ x ∈ xs, 0 ≤ x ∧ x < (n : Int)) => bitsOf_any u xs W hu hx (fun x hx => by have := hr x hx; omega))
    have HJN := Lib.hid (fun (d : Nat) (hd : d < 2 ^ n) (W : World) (hW : Below w.heap.size w W) (u : Value) (hu : Nums W u (clos l n)) => isJoined_any n d u l W hu hgd hn hd (HENV.out.next hW))
    have HPW := Lib.hid (pow_le hn)
    clear hgd
    go_enter Tryd.func18, Tryd.ntmps18
    go_wp2_with fail
    refine HN.out.mono ?_
    rintro e w1 ⟨rfl, b1⟩
    have HE1 := Lib.hid (btrans HB0.out b1)
    have HG1 := Lib.hid (HG0.out.below b1 HG0.out.lt)
    clear p0 p1 b1 HN HB0 HG0
    obtain ⟨p0, p1, -, -⟩ := HG1.out.two
    have HCB := Lib.hid (closedBits_any n (.slice A l.length c) l w1 (H.out.below HE1.out) hl HOK.out hn)
    go_wp2_with fail
    refine HCB.out.mono ?_
    rintro e w2 ⟨A3, c3, rfl, i3, b3⟩
    have HE2 := Lib.hid (btrans HE1.out b3)
    have HG2 := Lib.hid (HG1.out.below b3 HG1.out.lt)
    have HI2 := Lib.hid i3
    clear p0 p1 b3 i3 HCB HE1 HG1
    obtain ⟨p0, p1, -, -⟩ := HG2.out.two
    go_wp2_with fail
    clear p0 p1
    go_loopg [7, 23] q.length (fun g kv iv wr => ∃ (k : Nat) (kw : Value), kw = kv ∧ k + g = q.length ∧ iv = .int .i64 (k : Int) ∧ Hid (BrK n l q k) ∧ wr.ownsRow w2.heap.size 57 1 kw (ddK q k).length (cellsU (ddK q k)) ∧ Below w2.heap.size w2 wr)
    case atStart => exact ⟨0, _, rfl, by omega, rfl, BrK.zero n l q, World.ownsRow_nil _ _ _ _, Below.refl _ _⟩
    case round =>
      obtain ⟨k, kw, rfl, hkg, rfl, hck, hrow, hB⟩ := hrel
      obtain ⟨A4, c4, rfl⟩ := own_form hrow
      have HB := Lib.hid hB
      have HE := Lib.hid (btrans HE2.out hB)
      have HG := Lib.hid (HG2.out.below hB HG2.out.lt)
      have hdl := ddK_len q k
      obtain ⟨p0, p1, -, -⟩ := HG.out.two
      cases gk with
      | zero =>
        obtain rfl : k = q.length := by omega
        have HV : Hid (okG (BramP (n : Int) l q) = tchB l n (ddN q)) := by
          show _ = _
          rw [Bool.eq_iff_iff, okG_iff, HIF.out]
          exact ⟨fun h => h.2, fun h => ⟨⟨HQ0.out, hck.out⟩, h⟩⟩
        have HR := Lib.hid hrow
        have hsz := HE2.out.size
        have HAT := Lib.hid (allTouch_any n _ _ l (ddK q q.length) wr (HI2.out.below hB) HOK.out hn (show Nums wr _ _ from Reads.of_own hrow) (by omega) (fun c hc => Nat.lt_of_lt_of_le (hck.out.code (Nat.le_refl _) c hc).1 HPW.out))
        have HDD : Hid (ddK q q.length = ddN q) := rfl
        rw [HDD.out] at HAT HR ⊢
        clear hrow hB hck hdl
        clear p0 p1
        go_wp2_with fail
        refine HAT.out.mono ?_
        rintro e w4 ⟨rfl, b4⟩
        have HO4 := Lib.hid (own_below (own_base HR.out hsz) b4)
        have HE4 := Lib.hid (btrans HE.out b4)
        clear b4
        go_wp2_with fail
        go_ret2
        exact ⟨A4, _, c4, by rw [HV.out]; rfl, fun _ => ⟨rfl, HO4.out⟩, HE4.out⟩
      | succ g2 =>
        have hlt : k < q.length := by omega
        have hlt' : (k : Int) < (q.length : Int) := by omega
        obtain ⟨xs, hxs⟩ : ∃ xs, q[k]? = some xs := ⟨_, List.getElem?_eq_getElem hlt⟩
        have hxl := hqr xs (List.mem_of_getElem? hxs)
        obtain ⟨u, g5, o5, hu5, hA5, c5, hu⟩ := (HT.out.below HE.out).row hxs
        subst hA5
        obtain ⟨Ax, cx, rfl, -⟩ := hu.form
        have HNO : Hid (¬ BrS n l xs → ¬ BramP (n : Int) l q) := fun h1 h2 => brP_no hxs h1 (HIF.out.1 h2)
        have HS1 := Lib.hid (HS.out xs _ wr HE.out hu hxl)
        have HU := Lib.hid hu
        have HE9 := HE.out
        have hsz := HE2.out.size
        have HRX := Lib.hid (hrow)
        by_cases hso : SetOk (n : Int) l xs
        · rw [okG_yes hso] at HS1
          have hcn := code_lt (m := n) hso.2.1
          have HBO1 := Lib.hid (fun (W : World) (hW : Below wr.heap.size wr W) => HBO.out xs _ W (HU.out.below hW) hxl hso.2.1)
          have HCN := Lib.hid (fun (W : World) (hW : Below wr.heap.size wr W) => containsU_any (.slice A4 (ddK q k).length c4) (ddK q k) (codeL xs) W ((show Nums wr (.slice A4 (ddK q k).length c4) (ddK q k) from Reads.of_own HRX.out).below hW) (by omega))
          have HJN1 := Lib.hid (fun (W : World) (hW : Below wr.heap.size wr W) => HJN.out (codeL xs) hcn W (btrans HE.out hW) _ ((HI2.out.below hB).below hW))
          have HCK : Hid (BrS n l xs → BrK n l q (k + 1)) := fun h => hck.out.next hxs h
          have HCV : Hid (BrS n l xs ↔ jnB n l (codeL xs) = true) := by
            show _ ↔ _
            rw [jnB_iff]
            exact ⟨fun h => h.2, fun h => ⟨hso, h⟩⟩
          by_cases hm : codeL xs ∈ ddK q k
          · have HN : Hid (BrK n l q (k + 1)) := by
              refine HCK.out ⟨hso, ?_⟩
              exact (hck.out.code (by omega) _ hm).2
            have HDD := Lib.hid (ddK_yes hxs hm)
            rw [decide_eq_true hm] at HCN
            clear hso hm hu hu5 hxs hcn hrow hB HE9 hck
            generalize codeL xs = yc at *
            go_wp2_with fail
            refine HS1.out.mono ?_
            rintro e w4 ⟨rfl, b4⟩
            have HB4 := Lib.hid b4
            have HR4 := Lib.hid (own_below HRX.out b4)
            have HE4 := Lib.hid (btrans HB.out b4)
            clear p0 p1 b4 c5
            go_wp2_with fail
            refine (HBO1.out w4 HB4.out).mono ?_
            rintro e w' ⟨rfl, rfl⟩
            go_wp2_with fail
            refine (HCN.out w4 HB4.out).mono ?_
            rintro e w' ⟨rfl, rfl⟩
            go_wp2_with fail
            go_roundg g2
            case measure => omega
            case rel => exact ⟨k + 1, _, rfl, by omega, by go_num, HN, by rw [HDD.out]; exact HR4.out, HE4.out⟩
          · have HDD := Lib.hid (ddK_no hxs hm)
            rw [decide_eq_false hm] at HCN
            clear hm
            cases hjn : jnB n l (codeL xs) with
            | true =>
              have HN := Lib.hid (HCK.out (HCV.out.2 hjn))
              rw [hjn] at HJN1
              clear hjn hso hu hu5 hxs hcn hrow hB HE9 hck
              generalize codeL xs = yc at *
              go_wp2_with fail
              refine HS1.out.mono ?_
              rintro e w4 ⟨rfl, b4⟩
              have HB4 := Lib.hid b4
              clear p0 p1 b4 c5
              go_wp2_with fail
              refine (HBO1.out w4 HB4.out).mono ?_
              rintro e w' ⟨rfl, rfl⟩
              go_wp2_with fail
              refine (HCN.out w4 HB4.out).mono ?_
              rintro e w' ⟨rfl, rfl⟩
              go_wp2_with fail
              refine (HJN1.out w4 HB4.out).mono ?_
              rintro e w' ⟨rfl, rfl⟩
              have HR5 := own_below HRX.out HB4.out
              have hs5 := HB4.out.size
              have hs6 := HB.out.size
              have hz : w2.heap.size ≤ w4.heap.size := by omega
              go_wp2_with (at_builtin; refine wpList_append_own _ rfl _ _ 43 rfl w2.heap.size 57 i0 (.int .u64 0) 1 8 Tryd.underlying43 hi hz0 hz1 hz2 rfl (by decide) _ _ _ rfl (HR5.alloc _) ⟨w4.heap.size, 0, none⟩ 1 1 [.int .u64 (yc : Int)] rfl rfl (cell_one_new _ _ _) (fun x hx => by simp at hx; subst hx; rfl) (by unfold maxLen; omega) (by omega) (by simp; omega) ?_; intro v8 w8 hown8 hgrow8 _)
              have HR8 := Lib.hid hown8
              have HB8 := Lib.hid (((btrans HB.out HB4.out).alloc hz _).grown hgrow8 (by simp; omega) (fun j e => (HR5.lt j e).1))
              clear hown8 hgrow8 HR5
              go_roundg g2
              case measure => omega
              case rel => exact ⟨k + 1, v8, rfl, by omega, by go_num, HN, by rw [HDD.out, cellsU_appJ, List.length_append]; exact HR8.out, HB8.out⟩
            | false =>
              have HF := Lib.hid (HNO.out fun h1 => by have := HCV.out.1 h1; rw [hjn] at this; cases this)
              rw [hjn] at HJN1
              clear hjn hso hu hu5 hxs hcn hrow hB HE9 hck
              generalize codeL xs = yc at *
              go_wp2_with fail
              refine HS1.out.mono ?_
              rintro e w4 ⟨rfl, b4⟩
              have HB4 := Lib.hid b4
              clear p0 p1 b4 c5
              go_wp2_with fail
              refine (HBO1.out w4 HB4.out).mono ?_
              rintro e w' ⟨rfl, rfl⟩
              go_wp2_with fail
              refine (HCN.out w4 HB4.out).mono ?_
              rintro e w' ⟨rfl, rfl⟩
              go_wp2_with fail
              refine (HJN1.out w4 HB4.out).mono ?_
              rintro e w' ⟨rfl, rfl⟩
              go_wp2_with fail
              go_ret2
              exact RetBr.no HF.out (btrans HE.out HB4.out)
        · rw [okG_no hso] at HS1
          have HF := Lib.hid (HNO.out fun h1 => hso h1.1)
          clear hso hu hu5 hxs hrow hB HE9 hck
          go_wp2_with fail
          refine HS1.out.mono ?_
          rintro e w4 ⟨rfl, b4⟩
          clear c5
          go_wp2_with fail
          go_ret2
          exact RetBr.no HF.out (btrans HE.out b4)
  · rw [goodB_no hgd] at HN
    have HNO : Hid (¬ BramP s l q) := fun h => hgd h.1
    clear hgd
    go_enter Tryd.func18, Tryd.ntmps18
    go_wp2_with fail
    refine HN.out.mono ?_
    rintro e w1 ⟨rfl, b1⟩
    have HE1 := Lib.hid (btrans HB0.out b1)
    clear p0 p1 b1
    go_wp2_with fail
    go_ret2
    exact RetBr.no HNO.out HE1.out
end Go.Proofs.YthgahkkjdpljjaaDoor.joins
