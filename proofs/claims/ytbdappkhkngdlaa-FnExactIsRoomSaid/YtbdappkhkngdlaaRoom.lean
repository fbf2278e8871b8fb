/- Rooms: the contracts of the program's IsRoom and of the model's. -/
import Derived.Test.YtbdappkhkngdlaaRetrS
import Derived.Test.YtbdappkhkngdlaaCorI
namespace Go.Proofs.Ytbdappkhkngdlaa.room
open Go.RowKit P2 words edges ints good adjs fns sets rets covs bitsI func cors retr balls
set_option linter.unusedVariables false

/-- what a room is, for a valid Graph and a set -/
def RoomP (n : Nat) (l : List Ed) (xs tl : List Int) : Prop := RetrP n l tl ∧ 2 ≤ xs.length ∧ cornersN l n (codeL xs) = 0 ∧ codeL tl = codeL xs
noncomputable def roomV (s : Int) (l : List Ed) (xs tl : List Int) : Bool := okG (SetOk s l xs ∧ RoomP s.toNat l xs tl)
theorem codes_eq {n : Nat} {l : List Ed} {xs tl : List Int} (hs : SetOk n l xs) (hr : RetrP n l tl) : codeL tl = codeL xs ↔ (∀ x ∈ tl, x ∈ xs) ∧ ∀ x ∈ xs, at_ tl x = x := by
  have hx0 : ∀ x ∈ xs, 0 ≤ x := fun x hx => (hs.2.1 x hx).1
  have ht0 : ∀ x ∈ tl, 0 ≤ x := fun x hx => (hr.2.1 x hx).1
  have key : codeL tl = codeL xs ↔ ∀ k : Nat, (k : Int) ∈ tl ↔ (k : Int) ∈ xs := by
    constructor
    · intro h k
      have := code_bit ht0 k
      rw [h, code_bit hx0, decide_eq_decide] at this
      exact this.symm
    · intro h
      apply Nat.eq_of_testBit_eq
      intro i
      rw [code_bit ht0, code_bit hx0, decide_eq_decide]
      exact h i
  rw [key]
  constructor
  · intro h
    have up : ∀ x : Int, 0 ≤ x → (x ∈ tl ↔ x ∈ xs) := fun x h0 => by
      have := h x.toNat
      rwa [show ((x.toNat : Nat) : Int) = x from by omega] at this
    exact ⟨fun x hx => (up x (ht0 x hx)).1 hx, fun x hx => hr.2.2.1 x ((up x (hx0 x hx)).2 hx)⟩
  · rintro ⟨h1, h2⟩ k
    refine ⟨h1 _, fun hx => ?_⟩
    have := hs.2.1 _ hx
    have hm := at_mem hr.1 this.1 this.2
    rwa [h2 _ hx] at hm
theorem nw_zero_iff {p : Nat → Bool} {n : Nat} : (nw p n).length = 0 ↔ numOf p n = 0 := by
  rw [numOf_zero, List.length_eq_zero_iff, List.eq_nil_iff_forall_not_mem]
  constructor
  · intro h k hk
    cases hp : p k with
    | false => rfl
    | true => exact absurd (mem_nw.2 ⟨k, hk, hp, rfl⟩) (h _)
  · intro h e he
    obtain ⟨k, hk, hp, _⟩ := mem_nw.1 he
    rw [h k hk] at hp; cases hp

set_option maxHeartbeats 2000000 in
theorem implIsRoom_any (s : Int) (v u t : Value) (l : List Ed) (xs tl : List Int) (w : World) (h : Edges w v l) (hl : l.length ≤ 1048576) (hu : Ints w u xs) (hxl : xs.length ≤ 1048576) (ht : Ints w t tl) (htl : tl.length ≤ 1048576) :
    Calls Try.prog 31 #[.agg #[.int .i64 s, v], u, t] w fun e w' => e = .returned (.tuple #[.bool (roomV s l xs tl), .bool (okG (SetOk s l xs))]) ∧ Below w.heap.size w w' := by
  obtain ⟨A, c, rfl, -⟩ := h.form
  obtain ⟨A2, c2, rfl, -⟩ := hu.form
  obtain ⟨A3, c3, rfl, -⟩ := ht.form
  have H := Lib.hid h
  have HU := Lib.hid hu
  have HT := Lib.hid ht
  have b0 : Below w.heap.size w (w.alloc (.cells #[.int .i64 s, .slice A l.length c] 29)) := (Below.refl _ _).alloc (Nat.le_refl _) _
  have g0 := Blk.new w 29 #[.int .i64 s, .slice A l.length c]
  have HG := Lib.hid (hasSet_any s _ _ l xs _ (h.below b0) hl (hu.below b0) hxl)
  clear h hu ht
  by_cases hg : SetOk s l xs
  · rw [okG_yes hg] at HG
    obtain ⟨n, rfl⟩ : ∃ n : Nat, s = (n : Int) := ⟨s.toNat, by have := hg.1.1; omega⟩
    have hn : n ≤ 8 := by have := hg.1.2.1; omega
    have HOK := Lib.hid (okG_yes hg)
    have HGD := Lib.hid hg
    have HV : Hid (roomV (n : Int) l xs tl = okG (RoomP n l xs tl)) := by
      show _ = _
      unfold roomV
      rw [Int.toNat_natCast, show (SetOk (n : Int) l xs ∧ RoomP n l xs tl) = RoomP n l xs tl from propext ⟨fun h => h.2, fun h => ⟨hg, h⟩⟩]
    rw [HV.out]
    clear hg
    by_cases h2 : 2 ≤ xs.length
    · have d2 : decide ((xs.length : Int) < 2) = false := by simp; omega
      have d2' : decide (xs.length < 2) = false := by simp; omega
      have H2 := Lib.hid h2
      clear h2
      by_cases hr : RetrP n l tl
      · have HR := Lib.hid hr
        have hc8 : cornersN l n (codeL xs) < 256 := numOf_lt _ hn
        have HP : Hid (okG (RoomP n l xs tl) = (codeL tl == codeL xs && cornersN l n (codeL xs) == 0)) := by
          show _ = _
          rw [Bool.eq_iff_iff, okG_iff, Bool.and_eq_true, beq_iff_eq, beq_iff_eq]
          exact ⟨fun h => ⟨h.2.2.2, h.2.2.1⟩, fun h => ⟨hr, H2.out, h.2, h.1⟩⟩
        rw [HP.out]
        have HRO := Lib.hid (fun (W : World) (hb : Below w.heap.size w W) => isRetractionOf_any n _ _ l tl W (H.out.below hb) hl (HT.out.below hb) htl HGD.out.1 hn)
        rw [okG_yes hr] at HRO
        clear hr
        go_enter Try.func31, Try.ntmps31
        go_wp2_with fail
        refine HG.out.mono ?_
        rintro e w1 ⟨rfl, b1⟩
        have e1 := btrans b0 b1
        have g1 := g0.below b1 g0.lt
        clear HG b0 b1 g0
        obtain ⟨p0, p1, -, -⟩ := g1.two
        go_wp2_with fail
        refine (HRO.out w1 e1).mono ?_
        rintro e w2 ⟨rfl, b2⟩
        have e2 := btrans e1 b2
        have g2 := g1.below b2 g1.lt
        clear p0 p1 b2 g1
        go_wp2_with fail
        refine (bitsOf_any _ xs w2 (HU.out.below e2) hxl (fun y hy => by have := HGD.out.2.1 y hy; omega)).mono ?_
        rintro e w3 ⟨rfl, rfl⟩
        go_wp2_with fail
        refine (bitsOf_any _ tl w2 (HT.out.below e2) htl (fun y hy => by have := HR.out.2.1 y hy; omega)).mono ?_
        rintro e w4 ⟨rfl, rfl⟩
        obtain ⟨p0, p1, -, -⟩ := g2.two
        have HCB := Lib.hid (closedBits_any n _ l w2 (H.out.below e2) hl HGD.out.1 hn)
        have HCI := Lib.hid (fun (W : World) (v : Value) (hr : Nums W v (clos l n)) => cornersIn_any n (codeL xs) v l W hr HGD.out.1 hn (set_code_lt HGD.out))
        by_cases hq : codeL tl = codeL xs
        · have dq : ((codeL tl : Int) == (codeL xs : Int)) = true := by simp [hq]
          have dq' : (codeL tl == codeL xs) = true := by simp [hq]
          have HQ := Lib.hid dq'
          clear hq
          generalize hct : codeL tl = ct at *
          generalize hcx : codeL xs = cx at *
          have HCT := Lib.hid hct
          have HCX := Lib.hid hcx
          clear hct hcx
          go_wp2_with fail
          refine HCB.out.mono ?_
          rintro e w5 ⟨A5, c5, rfl, r5, b5⟩
          have e5 := btrans e2 b5
          clear dq dq'
          go_wp2_with fail
          refine (HCI.out w5 _ r5).mono ?_
          rintro e w6 ⟨rfl, b6⟩
          have hcn : ((cornersN l n cx : Int) == 0) = (cornersN l n cx == 0) := by
            rw [Bool.eq_iff_iff, beq_iff_eq, beq_iff_eq]; omega
          have HCN := Lib.hid hcn
          clear hcn
          go_wp2_with fail
          go_ret2
          exact ⟨retBB (by rw [HCT.out, HCX.out, HQ.out]; exact HCN.out) HOK.out.symm, btrans e5 b6⟩
        · have dq : ((codeL tl : Int) == (codeL xs : Int)) = false := by simp; omega
          have dq' : (codeL tl == codeL xs) = false := by simp [hq]
          have HQ := Lib.hid dq'
          clear hq
          generalize hct : codeL tl = ct at *
          generalize hcx : codeL xs = cx at *
          have HCT := Lib.hid hct
          have HCX := Lib.hid hcx
          clear hct hcx
          go_wp2_with fail
          go_ret2
          exact ⟨retBB (by rw [HCT.out, HCX.out, HQ.out]; rfl) HOK.out.symm, e2⟩
      · have HN : Hid (okG (RoomP n l xs tl) = false) := okG_no (fun h => hr h.1)
        have HRO := Lib.hid (fun (W : World) (hb : Below w.heap.size w W) => isRetractionOf_any n _ _ l tl W (H.out.below hb) hl (HT.out.below hb) htl HGD.out.1 hn)
        rw [okG_no hr] at HRO
        clear hr
        go_enter Try.func31, Try.ntmps31
        go_wp2_with fail
        refine HG.out.mono ?_
        rintro e w1 ⟨rfl, b1⟩
        have e1 := btrans b0 b1
        have g1 := g0.below b1 g0.lt
        clear HG b0 b1 g0
        obtain ⟨p0, p1, -, -⟩ := g1.two
        go_wp2_with fail
        refine (HRO.out w1 e1).mono ?_
        rintro e w2 ⟨rfl, b2⟩
        have e2 := btrans e1 b2
        go_wp2_with fail
        go_ret2
        exact ⟨retBB HN.out.symm HOK.out.symm, e2⟩
    · have HN : Hid (okG (RoomP n l xs tl) = false) := okG_no (fun h => h2 h.2.1)
      have d2 : decide ((xs.length : Int) < 2) = true := by simp; omega
      have d2' : decide (xs.length < 2) = true := by simp; omega
      clear h2
      go_enter Try.func31, Try.ntmps31
      go_wp2_with fail
      refine HG.out.mono ?_
      rintro e w1 ⟨rfl, b1⟩
      have e1 := btrans b0 b1
      go_wp2_with fail
      go_ret2
      exact ⟨retBB HN.out.symm HOK.out.symm, e1⟩
  · rw [okG_no hg] at HG
    have HN : Hid (roomV s l xs tl = false) := okG_no (fun h => hg h.1)
    have HOK := Lib.hid (okG_no hg)
    clear hg
    go_enter Try.func31, Try.ntmps31
    go_wp2_with fail
    refine HG.out.mono ?_
    rintro e w1 ⟨rfl, b1⟩
    have e1 := btrans b0 b1
    go_wp2_with fail
    go_ret2
    exact ⟨retBB HN.out.symm HOK.out.symm, e1⟩

set_option maxHeartbeats 2000000 in
set_option maxRecDepth 100000 in
theorem specIsRoom_any (s : Int) (v u t : Value) (l : List Ed) (xs tl : List Int) (w : World) (h : Edges w v l) (hl : l.length ≤ 1048576) (hu : Ints w u xs) (hxl : xs.length ≤ 1048576) (ht : Ints w t tl) (htl : tl.length ≤ 1048576) (hs1 : -9223372036854775808 ≤ s) (hs2 : s ≤ 9223372036854775807) :
    Calls Try.prog 30 #[.agg #[.int .i64 s, v], u, t] w fun e w' => e = .returned (.tuple #[.bool (roomV s l xs tl), .bool (okG (SetOk s l xs))]) ∧ Below w.heap.size w w' := by
  obtain ⟨A, c, rfl, -⟩ := h.form
  obtain ⟨A2, c2, rfl, hc2⟩ := hu.form
  obtain ⟨A3, c3, rfl, hc3⟩ := ht.form
  have H := Lib.hid h
  have HU := Lib.hid hu
  have HT := Lib.hid ht
  have HC2 := Lib.hid hc2
  have HC3 := Lib.hid hc3
  have b0 : Below w.heap.size w (w.alloc (.cells #[.int .i64 s, .slice A l.length c] 29)) := (Below.refl _ _).alloc (Nat.le_refl _) _
  have g0 := Blk.new w 29 #[.int .i64 s, .slice A l.length c]
  have HG := Lib.hid (l3Both_any s _ _ l xs _ (h.below b0) hl (hu.below b0) hxl hs1 hs2)
  clear h hu ht hc2 hc3
  by_cases hg : SetOk s l xs
  · rw [okG_yes hg] at HG
    obtain ⟨n, rfl⟩ : ∃ n : Nat, s = (n : Int) := ⟨s.toNat, by have := hg.1.1; omega⟩
    have hn : n ≤ 8 := by have := hg.1.2.1; omega
    have HOK := Lib.hid (okG_yes hg)
    have HGD := Lib.hid hg
    have HV : Hid (roomV (n : Int) l xs tl = okG (RoomP n l xs tl)) := by
      show _ = _
      unfold roomV
      rw [Int.toNat_natCast, show (SetOk (n : Int) l xs ∧ RoomP n l xs tl) = RoomP n l xs tl from propext ⟨fun h => h.2, fun h => ⟨hg, h⟩⟩]
    rw [HV.out]
    have HCE : Hid (cornersS n l xs = nw (cornerB l n (codeL xs)) n) := cornersS_eq hg.1 hg.2.2 hg.2.1
    clear hg
    have HRO := Lib.hid (fun (W : World) (hb : Below w.heap.size w W) => l3Retracts_any n _ _ l tl W (H.out.below hb) hl (HT.out.below hb) htl HGD.out.1 hn)
    by_cases hr : RetrP n l tl
    · rw [okG_yes hr] at HRO
      have HR := Lib.hid hr
      have htn := hr.1
      have hle : tl.length ≤ n := by omega
      have hge : n ≤ tl.length := by omega
      clear hr htn
      by_cases h2 : 2 ≤ xs.length
      · have d2 : decide ((xs.length : Int) < 2) = false := by simp; omega
        have d2' : decide (xs.length < 2) = false := by simp; omega
        have H2 := Lib.hid h2
        clear h2
        go_enter Try.func30, Try.ntmps30
        go_wp2_with fail
        refine HG.out.mono ?_
        rintro e w1 ⟨rfl, b1⟩
        have e1 := btrans b0 b1
        have g1 := g0.below b1 g0.lt
        clear HG b0 b1 g0
        obtain ⟨p0, p1, -, -⟩ := g1.two
        go_wp2_with fail
        refine (HRO.out w1 e1).mono ?_
        rintro e w2 ⟨rfl, b2⟩
        have e2 := btrans e1 b2
        have g2 := g1.below b2 g1.lt
        clear p0 p1 b2 g1
        obtain ⟨p0, p1, -, -⟩ := g2.two
        go_wp2_with fail
        refine (l3Corners_any n _ _ l xs w2 (H.out.below e2) hl (HU.out.below e2) hxl hn HGD.out.2.1).mono ?_
        rintro e w3 ⟨A5, c5, rfl, o5, b3⟩
        have e3 := btrans e2 b3
        have hlen : (cornersS n l xs).length = (nw (cornerB l n (codeL xs)) n).length := by rw [HCE.out]
        clear p0 p1 o5 b3 g2
        by_cases hz : (cornersS n l xs).length = 0
        · have HZ : Hid (cornersN l n (codeL xs) = 0) := nw_zero_iff.1 (by rw [← hlen]; exact hz)
          have d3 : decide (0 < ((cornersS n l xs).length : Int)) = false := decide_eq_false (by omega)
          have d3' : decide (0 < (cornersS n l xs).length) = false := decide_eq_false (by omega)
          clear hz hlen
          generalize (cornersS n l xs).length = z at *
          go_wp2_with fail
          clear d3 d3'
          go_loopg [8] tl.length (fun g i wr => ∃ k : Nat, k + g = tl.length ∧ i = .int .i64 (k : Int) ∧ Hid (∀ j x, j < k → tl[j]? = some x → x ∈ xs) ∧ wr = w3)
          case atStart => exact ⟨0, by omega, rfl, fun j e h => by omega, rfl⟩
          case round =>
            obtain ⟨k, hkg, rfl, hin, rfl⟩ := hrel
            cases gk with
            | succ g2 =>
              have hlt : k < tl.length := by omega
              have hlt' : (k : Int) < (tl.length : Int) := by omega
              obtain ⟨x, hx⟩ : ∃ x, tl[k]? = some x := ⟨_, List.getElem?_eq_getElem hlt⟩
              obtain ⟨g, o, rfl, c0⟩ := HC3.out k x hx
              have q0 := cell_keep c0 e3
              have HH := Lib.hid (l1Has_any _ xs x wr (HU.out.below e3) hxl)
              clear c0
              by_cases hm : x ∈ xs
              · have HK : Hid (∀ j y, j < k + 1 → tl[j]? = some y → y ∈ xs) := fun j y hj hy => by
                  by_cases e : j = k
                  · subst e; rw [hx] at hy; cases hy; exact hm
                  · exact hin.out j y (by omega) hy
                rw [show decide (x ∈ xs) = true from decide_eq_true hm] at HH
                clear hx hm
                go_wp2_with fail
                refine HH.out.mono ?_
                rintro e w4 ⟨rfl, rfl⟩
                go_wp2_with fail
                go_roundg g2
                case measure => omega
                case rel => exact ⟨k + 1, by omega, by go_num, HK, rfl⟩
              · have HN : Hid (okG (RoomP n l xs tl) = false) := okG_no (fun h => hm (((codes_eq HGD.out h.1).1 h.2.2.2).1 x (List.mem_of_getElem? hx)))
                rw [show decide (x ∈ xs) = false from decide_eq_false hm] at HH
                clear hx hm
                go_wp2_with fail
                refine HH.out.mono ?_
                rintro e w4 ⟨rfl, rfl⟩
                go_wp2_with fail
                go_ret2
                exact ⟨retBB HN.out.symm HOK.out.symm, e3⟩
            | zero =>
              obtain rfl : k = tl.length := by omega
              go_wp2_with fail
              have hz3 := e3.size
              go_loopg [9] xs.length (fun g i w5 => ∃ j : Nat, j + g = xs.length ∧ i = .int .i64 (j : Int) ∧ Hid (∀ m x, m < j → xs[m]? = some x → at_ tl x = x) ∧ Below w.heap.size w w5)
              case atStart => exact ⟨0, by omega, rfl, fun j e h => by omega, e3⟩
              case round =>
                obtain ⟨j, hjg, rfl, hfx, e5⟩ := hrel
                cases gk with
                | zero =>
                  obtain rfl : j = xs.length := by omega
                  have HY : Hid (okG (RoomP n l xs tl) = true) := okG_yes ⟨HR.out, H2.out, HZ.out, (codes_eq HGD.out HR.out).2
                    ⟨fun x hx => by obtain ⟨i, hi⟩ := List.getElem?_of_mem hx; exact hin.out i x (List.getElem?_eq_some_iff.1 hi).1 hi,
                     fun x hx => by obtain ⟨i, hi⟩ := List.getElem?_of_mem hx; exact hfx.out i x (List.getElem?_eq_some_iff.1 hi).1 hi⟩⟩
                  go_wp2_with fail
                  go_ret2
                  exact ⟨retBB HY.out.symm HOK.out.symm, e5⟩
                | succ g2 =>
                  have hlt : j < xs.length := by omega
                  have hlt' : (j : Int) < (xs.length : Int) := by omega
                  obtain ⟨x, hx⟩ : ∃ x, xs[j]? = some x := ⟨_, List.getElem?_eq_getElem hlt⟩
                  have hx0 := HGD.out.2.1 x (List.mem_of_getElem? hx)
                  obtain ⟨m, rfl⟩ : ∃ m : Nat, x = (m : Int) := ⟨x.toNat, by omega⟩
                  have hm' : (m : Int) < (tl.length : Int) := by omega
                  obtain ⟨y, hy⟩ : ∃ y, tl[m]? = some y := ⟨_, List.getElem?_eq_getElem (by omega)⟩
                  obtain ⟨ga, oa, rfl, c0⟩ := HC2.out j _ hx
                  obtain ⟨gb, ob, rfl, c1⟩ := HC3.out m y hy
                  have q0 := cell_keep c0 e5
                  have q1 := cell_keep c1 e5
                  have hay := at_eq hy
                  have HBq := Lib.hid (fun nq => below_drewN e5 nq)
                  clear c0 c1 hy e5 hx0
                  by_cases hyx : y = (m : Int)
                  · have HK : Hid (∀ i z, i < j + 1 → xs[i]? = some z → at_ tl z = z) := fun i z hi hz => by
                      by_cases e : i = j
                      · subst e; rw [hx] at hz; cases hz; exact hay.trans hyx
                      · exact hfx.out i z (by omega) hz
                    have d0 : (y != (m : Int)) = false := by simp [hyx]
                    clear hx hay hyx
                    go_wp2_with fail
                    go_quiet (fail)
                    go_wp2_with fail
                    go_roundg g2
                    case measure => omega
                    case rel => exact ⟨j + 1, by omega, by go_num, HK, HBq.out _⟩
                  · have HN : Hid (okG (RoomP n l xs tl) = false) := okG_no (fun h => hyx (by
                      have := ((codes_eq HGD.out h.1).1 h.2.2.2).2 _ (List.mem_of_getElem? hx)
                      rw [hay] at this; exact this))
                    have d0 : (y != (m : Int)) = true := by simp [hyx]
                    clear hx hay hyx
                    go_wp2_with fail
                    go_quiet (fail)
                    go_wp2_with fail
                    go_ret2
                    exact ⟨retBB HN.out.symm HOK.out.symm, HBq.out _⟩
        · have HN : Hid (okG (RoomP n l xs tl) = false) := okG_no (fun h => hz (by rw [hlen]; exact nw_zero_iff.2 h.2.2.1))
          have d3 : decide (0 < ((cornersS n l xs).length : Int)) = true := decide_eq_true (by omega)
          have d3' : decide (0 < (cornersS n l xs).length) = true := decide_eq_true (by omega)
          clear hz hlen
          generalize (cornersS n l xs).length = z at *
          go_wp2_with fail
          go_ret2
          exact ⟨retBB HN.out.symm HOK.out.symm, e3⟩
      · have HN : Hid (okG (RoomP n l xs tl) = false) := okG_no (fun h => h2 h.2.1)
        have d2 : decide ((xs.length : Int) < 2) = true := by simp; omega
        have d2' : decide (xs.length < 2) = true := by simp; omega
        clear h2
        go_enter Try.func30, Try.ntmps30
        go_wp2_with fail
        refine HG.out.mono ?_
        rintro e w1 ⟨rfl, b1⟩
        have e1 := btrans b0 b1
        have g1 := g0.below b1 g0.lt
        clear HG b0 b1 g0
        obtain ⟨p0, p1, -, -⟩ := g1.two
        go_wp2_with fail
        refine (HRO.out w1 e1).mono ?_
        rintro e w2 ⟨rfl, b2⟩
        have e2 := btrans e1 b2
        go_wp2_with fail
        go_ret2
        exact ⟨retBB HN.out.symm HOK.out.symm, e2⟩
    · rw [okG_no hr] at HRO
      have HN : Hid (okG (RoomP n l xs tl) = false) := okG_no (fun h => hr h.1)
      clear hr
      go_enter Try.func30, Try.ntmps30
      go_wp2_with fail
      refine HG.out.mono ?_
      rintro e w1 ⟨rfl, b1⟩
      have e1 := btrans b0 b1
      have g1 := g0.below b1 g0.lt
      clear HG b0 b1 g0
      obtain ⟨p0, p1, -, -⟩ := g1.two
      go_wp2_with fail
      refine (HRO.out w1 e1).mono ?_
      rintro e w2 ⟨rfl, b2⟩
      have e2 := btrans e1 b2
      go_wp2_with fail
      go_ret2
      exact ⟨retBB HN.out.symm HOK.out.symm, e2⟩
  · rw [okG_no hg] at HG
    have HN : Hid (roomV s l xs tl = false) := okG_no (fun h => hg h.1)
    have HOK := Lib.hid (okG_no hg)
    clear hg
    go_enter Try.func30, Try.ntmps30
    go_wp2_with fail
    refine HG.out.mono ?_
    rintro e w1 ⟨rfl, b1⟩
    have e1 := btrans b0 b1
    go_wp2_with fail
    go_ret2
    exact ⟨retBB HN.out.symm HOK.out.symm, e1⟩
end Go.Proofs.Ytbdappkhkngdlaa.room
