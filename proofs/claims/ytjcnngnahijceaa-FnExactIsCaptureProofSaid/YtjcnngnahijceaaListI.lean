/- The contract of the program's listsFrom. -/
import Derived.Handy
import Derived.Test.YtjcnngnahijceaaLists
import Derived.Test.YtjcnngnahijceaaGridW
import Derived.Test.YtjcnngnahijceaaGridL
import Derived.Test.YtjcnngnahijceaaNearV
import Derived.Test.YtjcnngnahijceaaSets
import Derived.Test.YtjcnngnahijceaaApp
import Derived.Deep.DeepCutAuto
import Derived.Maps.AppendAt
namespace Go.Proofs.Ytjcnngnahijceaa.lists
open Go.RowKit P2 words edges ints good adjs fns sets rets apps gridr grid
set_option linter.unusedVariables false

/-- the rows of a table of lists -/
def rowsN (Ls : List (List Nat)) : List (List Int) := Ls.map castL
theorem rowsN_len (Ls : List (List Nat)) : (rowsN Ls).length = Ls.length := by simp [rowsN]
theorem rowsN_app (Ls Ms : List (List Nat)) : rowsN (Ls ++ Ms) = rowsN Ls ++ rowsN Ms := by simp [rowsN]
theorem rowsN_at {Ls : List (List Nat)} {k : Nat} {L : List Nat} (h : Ls[k]? = some L) : (rowsN Ls)[k]? = some (castL L) := by simp [rowsN, h]
/-- a table of lists of the call's own -/
def RetL (w : World) (Ls : List (List Nat)) (e : Ending) (w' : World) : Prop :=
  ∃ A c us, e = .returned (.slice A (rowsN Ls).length c) ∧ OwnG w' w.heap.size (.slice A (rowsN Ls).length c) us (rowsN Ls) ∧ Below w.heap.size w w'
theorem take_succ_map {Ls : List (List Nat)} {j : Nat} {L : List Nat} (x : Nat) (h : Ls[j]? = some L) : (Ls.take (j + 1)).map (x :: ·) = (Ls.take j).map (x :: ·) ++ [x :: L] := by
  rw [List.take_add_one, h, List.map_append]; rfl
theorem grid_one (w : World) (L : List Nat) (hL : L = []) : OwnG (w.alloc (.cells #[.slice none 0 0] 32)) w.heap.size (.slice (some ⟨w.heap.size, 0, none⟩) 1 1) [.slice none 0 0] (rowsN [L]) := by
  subst hL
  refine ⟨World.ownsRow_lit (size := 1) w #[.slice none 0 0] 1 (Nat.le_refl _) (by unfold maxLen; omega) rfl, ?_, ?_⟩
  · intro i u r hu hr
    cases i with
    | zero => cases hu; cases hr; exact World.ownsRow_nil _ _ _ _
    | succ i => simp at hu
  · intro i j u u' k hij hu hu'
    cases j with
    | zero => omega
    | succ j => simp at hu'

/-- a table is kept where another one grows -/
theorem keepG {w w' : World} {B B9 n9 : Nat} {v lw : Value} {us xs9 : List Value} {rows : List (List Int)} (h : OwnG w B v us rows) (hl : w.ownsRow B9 32 1 lw n9 xs9) (hs : ∀ b, v.ownBlock = some b → lw.ownBlock ≠ some b) (hg : w.grownBy w' lw.ownBlock) : OwnG w' B v us rows := by
  refine ⟨h.1.kept hg ?_, fun i u r hu hr => (h.2.1 i u r hu hr).kept hg ?_, h.2.2⟩
  · cases hv : v.ownBlock with
    | none => exact .inl rfl
    | some b => exact .inr fun e => hs b hv e.symm
  · cases hv : u.ownBlock with
    | none => exact .inl rfl
    | some b => exact .inr fun e => own_apart (h.2.1 i u r hu hr) hl tneI b hv e.symm

set_option maxHeartbeats 4000000 in
set_option maxRecDepth 100000 in
theorem listsFrom_any (n : Nat) (hn : n ≤ 8) : ∀ (k : Nat), k ≤ 3 → ∀ (f : Nat), f ≤ n → ∀ (w : World),
    Calls Try.prog 163 #[.int .i64 (f : Int), .int .i64 (n : Int), .int .i64 (k : Int)] w (RetL w (listsN n k f)) := by
  intro k
  induction k with
  | zero =>
    intro _ f hf w
    have HG := Lib.hid (grid_one w [] rfl)
    have HB : Hid (Below w.heap.size w (w.alloc (.cells #[.slice none 0 0] 32))) := (Below.refl _ _).alloc (Nat.le_refl _) _
    go_enter Try.func163, Try.ntmps163
    go_wp2_with fail
    go_ret
    exact ⟨_, _, _, rfl, HG.out, HB.out⟩
  | succ k ih =>
    intro hk f hf w
    obtain ⟨i0, hi, hz0, hz1, hz2⟩ := info_parts infoInt
    obtain ⟨i1, hi1, hy0, hy1, hy2⟩ := info_parts infoRow
    have HIH := Lib.hid (ih (by omega))
    have hwr : IntKind.i64.wrap (((k + 1 : Nat) : Int) - 1) = (k : Int) := by
      rw [show ((k + 1 : Nat) : Int) - 1 = (k : Int) from by omega]; exact IntWalk.i64_in _ (by omega)
    have d0 : (((k + 1 : Nat) : Int) == 0) = false := by simp; omega
    have h8k : 8 * 8 ^ k ≤ 512 := by
      have := Nat.pow_le_pow_right (show 0 < 8 by decide) (show k ≤ 2 by omega)
      omega
    generalize hkk : ((k + 1 : Nat) : Int) = kk at *
    have HN : Hid (listsN n (k + 1) f = outK n k f n) := rfl
    clear ih hkk
    go_enter Try.func163, Try.ntmps163
    go_wp2_with fail
    go_loopg [7, 8] (n - f) (fun g lv iv wr => ∃ (x : Nat) (lw : Value) (us : List Value), lw = lv ∧ f ≤ x ∧ x + g = n ∧ iv = .int .i64 (x : Int) ∧ OwnG wr w.heap.size lw us (rowsN (outK n k f x)) ∧ Below w.heap.size w wr)
    case atStart => exact ⟨f, _, [], rfl, Nat.le_refl _, by omega, rfl, by rw [outK_nil]; exact OwnG.nil _ _, Below.refl _ _⟩
    case round =>
      obtain ⟨x, lw, us, rfl, hfx, hxg, rfl, hG, hB⟩ := hrel
      cases gk with
      | zero =>
        obtain rfl : x = n := by omega
        obtain ⟨A4, c4, rfl⟩ := own_form hG.1
        have HG := Lib.hid hG
        clear hG
        go_wp2_with fail
        go_ret
        exact ⟨A4, c4, us, rfl, HG.out, hB⟩
      | succ g2 =>
        have hlt : x < n := by omega
        have hlt' : (x : Int) < (n : Int) := by omega
        obtain ⟨wo, hwo⟩ : ∃ wo, wo = wr := ⟨_, rfl⟩
        subst hwo
        have HCA := Lib.hid (HIH.out x (by omega) wo)
        have HG := Lib.hid hG
        have HBO := Lib.hid hB
        have hlk := lists_len hn k x
        have hok := out_len hn (k := k) (f := f) (x := x) (by omega)
        have hos := out_len hn (k := k) (f := f) (x := x + 1) (by omega)
        have HOS := Lib.hid (outK_succ (n := n) (k := k) hfx)
        clear hG hB
        go_wp2_with fail
        refine HCA.out.mono ?_
        rintro e w5 ⟨A5, c5, us5, rfl, o5, b5⟩
        have HR := Lib.hid o5
        have HG5 := Lib.hid (HG.out.below b5)
        have HBW5 := Lib.hid (btrans HBO.out b5)
        have hrl := rowsN_len (listsN n k x)
        have hg9 : Hid (OwnG w5 w.heap.size lw us (rowsN (outK n k f x ++ ((listsN n k x).take 0).map (x :: ·)))) := by
          show OwnG _ _ _ _ _
          rw [List.take_zero, List.map_nil, List.append_nil]; exact HG5.out
        have HSEP : Hid (∀ b, lw.ownBlock = some b → b < wo.heap.size ∨ w5.heap.size ≤ b) := fun b hb => .inl (HG.out.1.lt b hb).2
        have HIN : Hid (∀ b, (Value.slice A5 (rowsN (listsN n k x)).length c5).ownBlock = some b → wo.heap.size ≤ b ∧ b < w5.heap.size) := fun b hb => o5.1.lt b hb
        clear b5 o5
        go_wp2_with fail
        go_loopg [7, 26] (listsN n k x).length (fun g lv iv wr => ∃ (j : Nat) (lw : Value) (us : List Value), lw = lv ∧ j + g = (listsN n k x).length ∧ iv = .int .i64 (j : Int) ∧ OwnG wr w.heap.size lw us (rowsN (outK n k f x ++ ((listsN n k x).take j).map (x :: ·))) ∧
          OwnG wr wo.heap.size (.slice A5 (rowsN (listsN n k x)).length c5) us5 (rowsN (listsN n k x)) ∧ Hid (∀ b, lw.ownBlock = some b → b < wo.heap.size ∨ w5.heap.size ≤ b) ∧ Below w.heap.size w wr ∧ w5.heap.size ≤ wr.heap.size)
        case atStart => exact ⟨0, _, us, rfl, by omega, rfl, hg9.out, HR.out, HSEP, HBW5.out, Nat.le_refl _⟩
        case round =>
          clear hg9 HSEP HR HG5
          obtain ⟨j, lw, us, rfl, hjg, rfl, hG, hR, hsep, hB, hsz⟩ := hrel
          cases gk with
          | zero =>
            obtain rfl : j = (listsN n k x).length := by omega
            rw [List.take_length, ← HOS.out] at hG
            have HG9 := Lib.hid hG
            clear hG hR
            go_wp2_with fail
            go_roundg g2
            case measure => omega
            case rel => exact ⟨x + 1, _, us, rfl, by omega, by omega, by go_num, HG9.out, hB⟩
          | succ g3 =>
            have hjl : j < (listsN n k x).length := by omega
            have hjl' : (j : Int) < ((rowsN (listsN n k x)).length : Int) := by rw [rowsN_len]; omega
            obtain ⟨L, hL⟩ : ∃ L, (listsN n k x)[j]? = some L := ⟨_, List.getElem?_eq_getElem hjl⟩
            obtain ⟨u, g, o, hu, hAx, c0, hru⟩ := (gridl.readsG_of_own hR).row (rowsN_at hL)
            subst hAx
            obtain ⟨Ar, cr, rfl, -⟩ := hru.form
            have hLk := (lists_mem k x L (List.mem_of_getElem? hL)).1
            have hLn : (castL L).length ≤ 3 := by rw [castL_len]; omega
            have HRW : Hid (rowsN (outK n k f x ++ ((listsN n k x).take (j + 1)).map (x :: ·)) = rowsN (outK n k f x ++ ((listsN n k x).take j).map (x :: ·)) ++ [castL (x :: L)]) := by
              show _ = _
              rw [take_succ_map x hL, ← List.append_assoc, rowsN_app]; rfl
            have hrows : (rowsN (outK n k f x ++ ((listsN n k x).take j).map (x :: ·))).length ≤ 2000 := by
              rw [rowsN_len, List.length_append, List.length_map, List.length_take]; omega
            have hHR : Hid (Ints (wr.alloc (.cells #[.int .i64 (x : Int)] 3)) (.slice Ar (castL L).length cr) (castL L)) := hru.below ((Below.refl _ _).alloc (Nat.le_refl _) _)
            have HO1 := Lib.hid (own_new1 wr 3 (x : Int))
            have hcl : Hid ((cellsI (castL L)).length = (castL L).length * 1) := by show _ = _; simp [cellsI]
            have HB1 : Hid (Below wr.heap.size wr (wr.alloc (.cells #[.int .i64 (x : Int)] 3))) := (Below.refl _ _).alloc (Nat.le_refl _) _
            obtain ⟨A4, c4, rfl⟩ := own_form hG.1
            have HG := Lib.hid hG
            have HR := Lib.hid hR
            have HB := Lib.hid hB
            have hwb := hB.size
            clear hL hG hR hu hru hB hjl hLk
            generalize rowsN (outK n k f x ++ ((listsN n k x).take j).map (x :: ·)) = rows at *
            go_wp2_with (first | (at_builtin; refine wpList_append_any _ rfl (.tmp 32) (.tmp 33) 32 rfl wr.heap.size 3 i0 (.int .i64 0) 1 8 Try.underlying32 hi hz0 hz1 hz2 rfl (by decide) _ _ _ rfl HO1.out (.slice Ar (castL L).length cr) (castL L).length (cellsI (castL L)) rfl hHR.out hcl.out (oneI _) (by unfold maxLen; simp; omega) (by simp; omega) (by simp) ?_; intro v2 w6 o6 gr6; have hB6 : Below wr.heap.size wr w6 := HB1.out.grown gr6 (by simp) (fun j e => (HO1.out.lt j e).1); have o7 : w6.ownsRow wr.heap.size 3 1 v2 (castL (x :: L)).length (cellsI (castL (x :: L))) := by { have h_ := o6; rw [show [(x : Int)].length + (castL L).length = (castL (x :: L)).length from by simp [castL]; omega] at h_; exact h_ }; clear o6 gr6; obtain ⟨A6, c6, rfl⟩ := own_form o7; have hown5 := (HG.out.below hB6).1; have hR6 := HR.out.below hB6; have hul : us.length ≤ 2000 := (HG.out.len ▸ hrows); have hsz6 := hB6.size) | (at_builtin; refine wpList_append_own_at _ rfl (.tmp 30) (.tmp 35) 42 rfl w.heap.size 32 i1 (.slice none 0 0) 1 24 Try.underlying42 hi1 hy0 hy1 hy2 rfl (by decide) _ _ _ rfl (hown5.alloc _) ⟨w6.heap.size, 0, none⟩ 1 1 [.slice A6 (castL (x :: L)).length c6] rfl rfl (cell_one_new _ _ _) (fun x hx => by simp at hx; subst hx; rfl) (by unfold maxLen; omega) (by omega) (by simp; omega) ?_; intro v6 w7 hown7 hgrow7 _ hat7))
            have HG7 := Lib.hid (OwnG.push HG.out hB6 hwb o7 hown7 rfl hgrow7)
            have hal6 := (Below.refl w6.heap.size w6).alloc (Nat.le_refl _) (.cells #[.slice A6 (castL (x :: L)).length c6] 32)
            have hgl := World.size_alloc w6 (.cells #[.slice A6 (castL (x :: L)).length c6] 32)
            have HR7 := Lib.hid (keepG (hR6.below hal6) (hown5.alloc _) (fun b hb e => by
              have h1 := HIN.out b hb
              have h2 := hsep.out b e
              omega) hgrow7)
            have HB7 := Lib.hid (((btrans HB.out hB6).alloc (by omega) (.cells #[.slice A6 (castL (x :: L)).length c6] 32)).grown hgrow7 (by rw [hgl]; omega) (fun j e => (hown5.lt j e).1))
            have hsz7 := HB7.out.size
            have hge7 : w6.heap.size ≤ w7.heap.size := by
              have := hgrow7.size
              rw [hgl] at this; omega
            have HSP : Hid (∀ b, v6.ownBlock = some b → b < wo.heap.size ∨ w5.heap.size ≤ b) := fun b hb => by
              rcases hat7 with h1 | h1
              · exact hsep.out b (h1.symm.trans hb)
              · rw [h1] at hb
                have h2 : (w6.alloc (.cells #[.slice A6 (castL (x :: L)).length c6] 32)).heap.size = b := by simpa using hb
                rw [hgl] at h2
                right; omega
            clear hown7 hgrow7 hown5 hR6 hal6 hgl hat7 hB6 o7
            go_roundg g3
            case measure => omega
            case rel => exact ⟨j + 1, _, _, rfl, by omega, by go_num, by rw [HRW.out]; exact HG7.out, HR7.out, HSP, HB7.out, by omega⟩
end Go.Proofs.Ytjcnngnahijceaa.lists
