/- The contract of the model's l4Configs. -/
import Derived.Handy
import Derived.Test.YtjcnngnahijceaaListI
import Derived.Test.YtjcnngnahijceaaTimeT
namespace Go.Proofs.Ytjcnngnahijceaa.lists
open Go.RowKit P2 words edges ints good adjs fns sets rets apps gridr grid
set_option linter.unusedVariables false

theorem btrans2 {N : Nat} {a b c : World} (h : Below N a b) (k : Below N b c) : Below N a c := h.trans k
theorem push2 {w1 w2 : World} {B : Nat} {s v2 : Value} {m : List Int} {x : Int} {o : Obj} (hrow : w1.ownsRow B 3 1 s m.length (cellsI m)) (hown : w2.ownsRow B 3 1 v2 (m.length + 1) (cellsI m ++ [.int .i64 x]))
    (hg : (w1.alloc o).grownBy w2 s.ownBlock) (hB : B ≤ w1.heap.size) : w2.ownsRow B 3 1 v2 (m.length + 1) (cellsI (m ++ [x])) ∧ Below B w1 w2 := by
  have h := push1 hrow hown hg hB
  have h1 := h.1
  rw [List.length_append] at h1
  exact ⟨h1, h.2⟩
def extK (L : List Nat) (x : Nat) : List (List Nat) := (upL (lastD 0 L) x).map fun y => L ++ [y]
theorem extK_nil (L : List Nat) : extK L (lastD 0 L) = [] := by unfold extK; rw [upL_nil]; rfl
theorem extK_succ {L : List Nat} {x : Nat} (h : lastD 0 L ≤ x) : extK L (x + 1) = extK L x ++ [L ++ [x]] := by
  unfold extK; rw [upL_succ h, List.map_append]; rfl
theorem extK_all (n : Nat) (L : List Nat) : extK L n = extL n 0 L := rfl
theorem extK_len (L : List Nat) (x : Nat) : (extK L x).length ≤ x := by unfold extK; rw [List.length_map, upL_len]; omega
def nextK (n : Nat) (Ls : List (List Nat)) (j : Nat) : List (List Nat) := (Ls.take j).flatMap (extL n 0)
theorem nextK_zero (n : Nat) (Ls : List (List Nat)) : nextK n Ls 0 = [] := by simp [nextK]
theorem nextK_succ {n j : Nat} {Ls : List (List Nat)} {L : List Nat} (h : Ls[j]? = some L) : nextK n Ls (j + 1) = nextK n Ls j ++ extL n 0 L := by
  unfold nextK; rw [List.take_add_one, h, List.flatMap_append]; simp
theorem nextK_all (n k : Nat) : nextK n (listsN n k 0) (listsN n k 0).length = listsN n (k + 1) 0 := by
  unfold nextK; rw [List.take_length, lists_snoc]
theorem nextK_len {n : Nat} (hn : n ≤ 8) (Ls : List (List Nat)) (j : Nat) : (nextK n Ls j).length ≤ Ls.length * 8 := by
  have h := flatMap_le (M := 8) (F := extL n 0) (Ls.take j) fun a _ => by unfold extL; rw [List.length_map, upL_len]; omega
  have h2 : (Ls.take j).length ≤ Ls.length := by rw [List.length_take]; omega
  exact Nat.le_trans h (Nat.mul_le_mul_right _ h2)
theorem last_at {L : List Nat} {m : Nat} (h : L.length = m + 1) : L[m]? = some (lastD 0 L) := by
  unfold lastD
  rw [List.getLast?_eq_getElem?, h, show m + 1 - 1 = m from rfl]
  have : m < L.length := by omega
  rw [List.getElem?_eq_getElem this]; rfl
theorem last_lt {n k : Nat} {L : List Nat} (h : L ∈ listsN n k 0) : lastD 0 L ≤ n := by
  cases k with
  | zero =>
    have : L = [] := by simpa [listsN] using h
    subst this; exact Nat.zero_le _
  | succ k =>
    have h1 := lists_mem _ 0 L h
    have h2 := List.mem_of_getElem? (last_at h1.1)
    have := (h1.2 _ h2).2; omega
set_option maxHeartbeats 4000000 in
set_option maxRecDepth 100000 in
theorem l4Configs_any (n k : Nat) (hn : n ≤ 8) (hk : k ≤ 3) (w : World) :
    Calls Try.prog 124 #[.int .i64 (n : Int), .int .i64 (k : Int)] w (RetL w (listsN n k 0)) := by
  obtain ⟨i0, hi, hz0, hz1, hz2⟩ := info_parts infoInt
  obtain ⟨i1, hi1, hy0, hy1, hy2⟩ := info_parts infoRow
  have HO0 : Hid (OwnG ((w.alloc (.cells #[] 3)).alloc (.cells #[.slice (some ⟨w.heap.size, 0, none⟩) 0 0] 32)) w.heap.size (.slice (some ⟨w.heap.size + 1, 0, none⟩) 1 1) [.slice (some ⟨w.heap.size, 0, none⟩) 0 0] (rowsN (listsN n 0 0))) := by
    have h_ := World.ownsRow_lit (size := 1) (base := w.heap.size) (e := 32) (w.alloc (.cells #[] 3)) #[.slice (some ⟨w.heap.size, 0, none⟩) 0 0] 1 (by simp) (by unfold maxLen; omega) rfl
    rw [World.size_alloc] at h_
    refine ⟨h_, ?_, ?_⟩
    · intro i u r hu hr
      cases i with
      | zero => cases hu; cases hr; exact (own_new0 w 3 1).alloc _
      | succ i => simp at hu
    · intro i j u u' k hij hu hu'
      cases j with
      | zero => omega
      | succ j => simp at hu'
  have HB0 : Hid (Below w.heap.size w ((w.alloc (.cells #[] 3)).alloc (.cells #[.slice (some ⟨w.heap.size, 0, none⟩) 0 0] 32))) := ((Below.refl _ _).alloc (Nat.le_refl _) _).alloc (by simp) _
  go_enter Try.func124, Try.ntmps124
  go_wp2_with fail
  go_loopg [5, 6] k (fun g ov iv wr => ∃ (i : Nat) (ow : Value) (us : List Value), ow = ov ∧ i + g = k ∧ iv = .int .i64 (i : Int) ∧ OwnG wr w.heap.size ow us (rowsN (listsN n i 0)) ∧ Below w.heap.size w wr)
  case atStart => exact ⟨0, _, _, rfl, by omega, rfl, HO0.out, HB0.out⟩
  case round =>
    clear HO0 HB0
    obtain ⟨i, ow, us, rfl, hig, rfl, hG, hB⟩ := hrel
    obtain ⟨A4, c4, rfl⟩ := own_form hG.1
    cases gk with
    | zero =>
      obtain rfl : i = k := by omega
      have HG := Lib.hid hG
      clear hG
      go_wp2_with fail
      go_ret
      exact ⟨A4, c4, us, rfl, HG.out, hB⟩
    | succ g2 =>
      have hik : (i : Int) < (k : Int) := by omega
      have hll := lists_len hn i 0
      have h8 : (8 : Nat) ^ i ≤ 64 := by
        have := Nat.pow_le_pow_right (show 0 < 8 by decide) (show i ≤ 2 by omega)
        omega
      obtain ⟨wo, hwo⟩ : ∃ wo, wo = wr := ⟨_, rfl⟩
      subst hwo
      have HG := Lib.hid hG
      have HB := Lib.hid hB
      have hsz := hB.size
      have HN0 : Hid (OwnG (wo.alloc (.cells #[] 32)) wo.heap.size (.slice (some ⟨wo.heap.size, 0, none⟩) 0 0) [] (rowsN (nextK n (listsN n i 0) 0))) := by
        rw [nextK_zero]
        exact ⟨own_new0 wo 32 1, fun i u r hu => by simp at hu, fun i j u u' k _ hu => by simp at hu⟩
      have HB1 : Hid (Below wo.heap.size wo (wo.alloc (.cells #[] 32))) := (Below.refl _ _).alloc (Nat.le_refl _) _
      have HALL := Lib.hid (nextK_all n i)
      have HRL := Lib.hid (rowsN_len (listsN n i 0))
      clear hG hB
      go_wp2_with fail
      go_loopg [7, 8] (listsN n i 0).length (fun g nv jv wr => ∃ (j : Nat) (nw9 : Value) (us2 : List Value), nw9 = nv ∧ j + g = (listsN n i 0).length ∧ jv = .int .i64 (j : Int) ∧ OwnG wr wo.heap.size nw9 us2 (rowsN (nextK n (listsN n i 0) j)) ∧ Below wo.heap.size wo wr)
      case atStart => exact ⟨0, _, _, rfl, by omega, rfl, HN0.out, HB1.out⟩
      case round =>
        clear HN0 HB1
        obtain ⟨j, nw9, us2, rfl, hjg, rfl, hN, hB1⟩ := hrel
        obtain ⟨A9, c9, rfl⟩ := own_form hN.1
        have HN := Lib.hid hN
        have HB1 := Lib.hid hB1
        cases gk with
        | zero =>
          obtain rfl : j = (listsN n i 0).length := by omega
          have HN5 := Lib.hid (hN.base hsz)
          have HB5 := Lib.hid (btrans HB.out hB1)
          have hjl9 : ((listsN n i 0).length : Int) = ((rowsN (listsN n i 0)).length : Int) := by rw [HRL.out]
          clear hN hB1 HN
          go_wp2_with fail
          go_roundg g2
          case measure => omega
          case rel => exact ⟨i + 1, _, us2, rfl, by omega, by go_num, by rw [← HALL.out]; exact HN5.out, HB5.out⟩
        | succ g3 =>
          have hjl : j < (listsN n i 0).length := by omega
          have hjl' : (j : Int) < ((rowsN (listsN n i 0)).length : Int) := by rw [rowsN_len]; omega
          obtain ⟨L, hL⟩ : ∃ L, (listsN n i 0)[j]? = some L := ⟨_, List.getElem?_eq_getElem hjl⟩
          have hLm := List.mem_of_getElem? hL
          have hLk := (lists_mem i 0 L hLm).1
          have hln := last_lt hLm
          have hG1 := HG.out.below hB1
          obtain ⟨u, g, o, hu, hAx, c0, hru⟩ := (gridl.readsG_of_own hG1).row (rowsN_at hL)
          subst hAx
          obtain ⟨Ar, cr, rfl, hcr⟩ := hru.form
          have HS := Lib.hid (nextK_succ (n := n) hL)
          have HE := Lib.hid (extK_all n L)
          obtain ⟨F, hF⟩ : ∃ F, F = lastD 0 L := ⟨_, rfl⟩
          have HN2 : Hid (OwnG wr wo.heap.size (.slice A9 (rowsN (nextK n (listsN n i 0) j)).length c9) us2 (rowsN (nextK n (listsN n i 0) j ++ extK L F))) := by
            show OwnG _ _ _ _ _
            rw [hF, extK_nil, List.append_nil]; exact hN
          have HF := Lib.hid hF
          rw [← hF] at hln
          have hnl := nextK_len hn (listsN n i 0) j
          have hnb : (nextK n (listsN n i 0) j).length ≤ 600 := by omega
          have HL := Lib.hid hL
          have hcL := castL_len L
          have hLs : (castL L).length ≤ 3 := by omega
          have HRU := Lib.hid hru
          generalize hPP : nextK n (listsN n i 0) j = PP at *
          have HPP := Lib.hid hPP
          clear hPP hN HN hF
          obtain ⟨g9, hg9⟩ : ∃ g9, g9 = g := ⟨_, rfl⟩
          obtain ⟨o9, ho9⟩ : ∃ o9, o9 = o := ⟨_, rfl⟩
          subst hg9 ho9
          have HC := Lib.hid hcr
          clear hru hu hLm
          cases i with
          | zero =>
            have hL0 : L = [] := List.length_eq_zero_iff.1 hLk
            have hla : F = 0 := by have := HF.out; subst hL0; exact this
            subst hla
            clear hcr HC hL0 hLk hcL
            go_wp2_with fail
            clear HRU
            go_loopg [7, 10] (n - 0) (fun g nv xv wr => ∃ (x : Nat) (nw9 : Value) (us2 : List Value), nw9 = nv ∧ 0 ≤ x ∧ x + g = n ∧ xv = .int .i64 (x : Int) ∧ OwnG wr wo.heap.size nw9 us2 (rowsN (PP ++ extK L x)) ∧ Below wo.heap.size wo wr)
            case atStart => exact ⟨0, _, us2, rfl, Nat.le_refl _, by omega, rfl, HN2.out, HB1.out⟩
            case round =>
              clear HN2 HB1 c0
              obtain ⟨x, nw9, us2, rfl, hfx, hxg, rfl, hN, hB1⟩ := hrel
              obtain ⟨A9, c9, rfl⟩ := own_form hN.1
              cases gk with
              | zero =>
                obtain rfl : x = n := by omega
                have HN := Lib.hid hN
                have HB1 := Lib.hid hB1
                clear hN hB1
                go_wp2_with fail
                go_roundg g3
                case measure => omega
                case rel => exact ⟨j + 1, _, us2, rfl, by omega, by go_num, by rw [HS.out, ← HE.out]; exact HN.out, HB1.out⟩
              | succ g4 =>
                have hlt : x < n := by omega
                have hlt' : (x : Int) < (n : Int) := by omega
                have hG1 := HG.out.below hB1
                obtain ⟨u, g, o, hu, hAx, c0, hru⟩ := (gridl.readsG_of_own hG1).row (rowsN_at HL.out)
                have hAx2 : g = g9 ∧ o = o9 := by simpa using hAx.symm
                obtain ⟨rfl, rfl⟩ := hAx2
                clear hAx
                obtain ⟨Ar2, cr2, rfl, -⟩ := hru.form
                have HOW := Lib.hid (times.l1Own_any _ (castL L) wr hru (by omega))
                have HX := Lib.hid (castL_snoc L x)
                have hlen9 : Hid ((castL (L ++ [x])).length = (castL L).length + 1) := by show _ = _; rw [castL_snoc]; simp
                have HES := Lib.hid (extK_succ (L := L) (HF.out ▸ hfx))
                have hel := extK_len L x
                have hrows : (rowsN (PP ++ extK L x)).length ≤ 2000 := by rw [rowsN_len, List.length_append]; omega
                have HN := Lib.hid hN
                have HB1 := Lib.hid hB1
                have hszo := hB1.size
                have HRA := Lib.hid (rowsN_app (PP ++ extK L x) [L ++ [x]])
                generalize rowsN (PP ++ extK L x) = rows at *
                clear hN hB1 hG1 hru hu
                go_wp2_with fail
                refine HOW.out.mono ?_
                rintro e w5 ⟨A6, c6, rfl, o6, b6⟩
                have HR6 := Lib.hid o6
                have HB6 := Lib.hid b6
                have hsz6 := b6.size
                have HP1 := Lib.hid (fun (s v2 : Value) (w2 : World) (ob : Obj) (h1 : w5.ownsRow wr.heap.size 3 1 s (castL L).length (cellsI (castL L))) (h2 : w2.ownsRow wr.heap.size 3 1 v2 ((castL L).length + 1) (cellsI (castL L) ++ [.int .i64 (x : Int)])) (h3 : (w5.alloc ob).grownBy w2 s.ownBlock) => push2 h1 h2 h3 (by omega))
                have hul : us2.length ≤ 2000 := (HN.out.len ▸ hrows)
                clear o6 b6
                go_wp2_with (first | ((at_builtin; refine wpList_append_own _ rfl _ _ 32 rfl (wr.heap.size) 3 i0 (.int .i64 0) 1 8 Try.underlying32 hi hz0 hz1 hz2 rfl (by decide) _ _ _ rfl (HR6.out.alloc _) ⟨w5.heap.size, 0, none⟩ 1 1 [.int .i64 (x)] rfl rfl (cell_one_new _ _ _) (fun x hx => by simp at hx; subst hx; rfl) (by unfold maxLen; omega) (by omega) (by simp; omega) ?_; intro v2 w2 hown2 hgrow2 _); obtain ⟨o7, b7⟩ := HP1.out _ _ _ _ HR6.out hown2 hgrow2; have hB7 := btrans2 HB6.out b7; have hown5 := (HN.out.below hB7).1; have hsz7 := hB7.size; clear hown2 hgrow2 b7; obtain ⟨A7, c7, rfl⟩ := own_form o7) | (at_builtin; refine wpList_append_own _ rfl (.tmp 41) (.tmp 50) 42 rfl wo.heap.size 32 i1 (.slice none 0 0) 1 24 Try.underlying42 hi1 hy0 hy1 hy2 rfl (by decide) _ _ _ rfl (hown5.alloc _) ⟨w2.heap.size, 0, none⟩ 1 1 [.slice A7 ((castL L).length + 1) c7] rfl rfl (cell_one_new _ _ _) (fun x hx => by simp at hx; subst hx; rfl) (by unfold maxLen; omega) (by omega) (by simp; omega) ?_; intro v6 w7 hown7 hgrow7 _))
                have HG7 := Lib.hid (OwnG.push (r := castL (L ++ [x])) HN.out hB7 hszo (by rw [hlen9.out, HX.out]; exact o7) hown7 rfl hgrow7)
                have HB7 := Lib.hid (((btrans HB1.out hB7).alloc (by omega) (.cells #[.slice A7 ((castL L).length + 1) c7] 32)).grown hgrow7 (by simp; omega) (fun j e => (hown5.lt j e).1))
                clear hown7 hgrow7 hown5 hB7 o7
                go_roundg g4
                case measure => omega
                case rel => exact ⟨x + 1, _, _, rfl, by omega, by omega, by go_num, by rw [HES.out, ← List.append_assoc, HRA.out]; exact HG7.out, HB7.out⟩
          | succ m =>
            obtain ⟨gr, orr, rfl, f0⟩ := hcr m (F : Int) (by rw [HF.out]; exact castL_at (last_at hLk))
            have f1 := nearv.cell_keep f0 (Below.refl _ wr)
            have hwr : IntKind.i64.wrap (((m + 1 : Nat) : Int) - 1) = (m : Int) := by
              rw [show ((m + 1 : Nat) : Int) - 1 = (m : Int) from by omega]; exact IntWalk.i64_in _ (by omega)
            have hml : (m : Int) < ((castL L).length : Int) := by omega
            have d0 : decide (0 < ((m + 1 : Nat) : Int)) = true := decide_eq_true (by omega)
            clear hcr HC hLk hcL f0
            generalize hii : ((m + 1 : Nat) : Int) = ii at *
            go_wp2_with fail
            clear HRU
            go_loopg [7, 10] (n - F) (fun g nv xv wr => ∃ (x : Nat) (nw9 : Value) (us2 : List Value), nw9 = nv ∧ F ≤ x ∧ x + g = n ∧ xv = .int .i64 (x : Int) ∧ OwnG wr wo.heap.size nw9 us2 (rowsN (PP ++ extK L x)) ∧ Below wo.heap.size wo wr)
            case atStart => exact ⟨F, _, us2, rfl, Nat.le_refl _, by omega, rfl, HN2.out, HB1.out⟩
            case round =>
              clear HN2 HB1 c0
              obtain ⟨x, nw9, us2, rfl, hfx, hxg, rfl, hN, hB1⟩ := hrel
              obtain ⟨A9, c9, rfl⟩ := own_form hN.1
              cases gk with
              | zero =>
                obtain rfl : x = n := by omega
                have HN := Lib.hid hN
                have HB1 := Lib.hid hB1
                clear hN hB1
                go_wp2_with fail
                go_roundg g3
                case measure => omega
                case rel => exact ⟨j + 1, _, us2, rfl, by omega, by go_num, by rw [HS.out, ← HE.out]; exact HN.out, HB1.out⟩
              | succ g4 =>
                have hlt : x < n := by omega
                have hlt' : (x : Int) < (n : Int) := by omega
                have hG1 := HG.out.below hB1
                obtain ⟨u, g, o, hu, hAx, c0, hru⟩ := (gridl.readsG_of_own hG1).row (rowsN_at HL.out)
                have hAx2 : g = g9 ∧ o = o9 := by simpa using hAx.symm
                obtain ⟨rfl, rfl⟩ := hAx2
                clear hAx
                obtain ⟨Ar2, cr2, rfl, -⟩ := hru.form
                have HOW := Lib.hid (times.l1Own_any _ (castL L) wr hru (by omega))
                have HX := Lib.hid (castL_snoc L x)
                have hlen9 : Hid ((castL (L ++ [x])).length = (castL L).length + 1) := by show _ = _; rw [castL_snoc]; simp
                have HES := Lib.hid (extK_succ (L := L) (HF.out ▸ hfx))
                have hel := extK_len L x
                have hrows : (rowsN (PP ++ extK L x)).length ≤ 2000 := by rw [rowsN_len, List.length_append]; omega
                have HN := Lib.hid hN
                have HB1 := Lib.hid hB1
                have hszo := hB1.size
                have HRA := Lib.hid (rowsN_app (PP ++ extK L x) [L ++ [x]])
                generalize rowsN (PP ++ extK L x) = rows at *
                clear hN hB1 hG1 hru hu
                go_wp2_with fail
                refine HOW.out.mono ?_
                rintro e w5 ⟨A6, c6, rfl, o6, b6⟩
                have HR6 := Lib.hid o6
                have HB6 := Lib.hid b6
                have hsz6 := b6.size
                have HP1 := Lib.hid (fun (s v2 : Value) (w2 : World) (ob : Obj) (h1 : w5.ownsRow wr.heap.size 3 1 s (castL L).length (cellsI (castL L))) (h2 : w2.ownsRow wr.heap.size 3 1 v2 ((castL L).length + 1) (cellsI (castL L) ++ [.int .i64 (x : Int)])) (h3 : (w5.alloc ob).grownBy w2 s.ownBlock) => push2 h1 h2 h3 (by omega))
                have hul : us2.length ≤ 2000 := (HN.out.len ▸ hrows)
                clear o6 b6
                go_wp2_with (first | ((at_builtin; refine wpList_append_own _ rfl _ _ 32 rfl (wr.heap.size) 3 i0 (.int .i64 0) 1 8 Try.underlying32 hi hz0 hz1 hz2 rfl (by decide) _ _ _ rfl (HR6.out.alloc _) ⟨w5.heap.size, 0, none⟩ 1 1 [.int .i64 (x)] rfl rfl (cell_one_new _ _ _) (fun x hx => by simp at hx; subst hx; rfl) (by unfold maxLen; omega) (by omega) (by simp; omega) ?_; intro v2 w2 hown2 hgrow2 _); obtain ⟨o7, b7⟩ := HP1.out _ _ _ _ HR6.out hown2 hgrow2; have hB7 := btrans2 HB6.out b7; have hown5 := (HN.out.below hB7).1; have hsz7 := hB7.size; clear hown2 hgrow2 b7; obtain ⟨A7, c7, rfl⟩ := own_form o7) | (at_builtin; refine wpList_append_own _ rfl (.tmp 41) (.tmp 50) 42 rfl wo.heap.size 32 i1 (.slice none 0 0) 1 24 Try.underlying42 hi1 hy0 hy1 hy2 rfl (by decide) _ _ _ rfl (hown5.alloc _) ⟨w2.heap.size, 0, none⟩ 1 1 [.slice A7 ((castL L).length + 1) c7] rfl rfl (cell_one_new _ _ _) (fun x hx => by simp at hx; subst hx; rfl) (by unfold maxLen; omega) (by omega) (by simp; omega) ?_; intro v6 w7 hown7 hgrow7 _))
                have HG7 := Lib.hid (OwnG.push (r := castL (L ++ [x])) HN.out hB7 hszo (by rw [hlen9.out, HX.out]; exact o7) hown7 rfl hgrow7)
                have HB7 := Lib.hid (((btrans HB1.out hB7).alloc (by omega) (.cells #[.slice A7 ((castL L).length + 1) c7] 32)).grown hgrow7 (by simp; omega) (fun j e => (hown5.lt j e).1))
                clear hown7 hgrow7 hown5 hB7 o7
                go_roundg g4
                case measure => omega
                case rel => exact ⟨x + 1, _, _, rfl, by omega, by omega, by go_num, by rw [HES.out, ← List.append_assoc, HRA.out]; exact HG7.out, HB7.out⟩
end Go.Proofs.Ytjcnngnahijceaa.lists
