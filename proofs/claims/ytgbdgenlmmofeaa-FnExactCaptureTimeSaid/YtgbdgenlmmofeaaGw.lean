/- The contract of graphWhere: the Graph of the edges that a function value allows. -/
import Derived.Test.YtgbdgenlmmofeaaFns
namespace Go.Proofs.Ytgbdgenlmmofeaa.gws
open Go.RowKit P2 words edges fns

/-- what graphWhere holds of its Graph in the midst: its block, its edges -/
def Mid (w wr : World) (n : Nat) (l : List Ed) : Prop :=
  ∃ A c, Blk wr (w.heap.size + 1) 29 #[.int .i64 (n : Int), .slice A l.length c] ∧ wr.ownsRow (w.heap.size + 2) 90 2 (.slice A l.length c) l.length (cellsE l) ∧
    Blk wr w.heap.size 29 #[.int .i64 0, .slice none 0 0] ∧ Below w.heap.size w wr
theorem Mid.call {w wr w1 : World} {n : Nat} {l : List Ed} (h : Mid w wr n l) (hb : Below wr.heap.size wr w1) : Mid w w1 n l := by
  obtain ⟨A, c, h1, h2, h3, h4⟩ := h
  exact ⟨A, c, h1.below hb h1.lt, own_below h2 hb, h3.below hb h3.lt, h4.trans (hb.mono h4.size)⟩
theorem Mid.push {w w1 w2 : World} {n m : Nat} {l : List Ed} {e : Ed} {A : Option Addr} {c : Nat} {o : Obj} {v : Value}
    (hB1 : Blk w1 (w.heap.size + 1) 29 #[.int .i64 (n : Int), .slice A l.length c]) (hr : w1.ownsRow (w.heap.size + 2) 90 2 (.slice A l.length c) l.length (cellsE l))
    (hR : Blk w1 w.heap.size 29 #[.int .i64 0, .slice none 0 0]) (hb : Below w.heap.size w w1)
    (hown : w2.ownsRow (w.heap.size + 2) 90 2 v (l.length + m) (cellsE (l ++ [e]))) (hm : m = 1) (hg : (w1.alloc o).grownBy w2 (Value.slice A l.length c).ownBlock) :
    ∃ A' c', v = .slice A' (l ++ [e]).length c' ∧ Mid w (w2.setCell ⟨w.heap.size + 1, 1, none⟩ (.slice A' (l ++ [e]).length c')) n (l ++ [e]) ∧ Blk w2 (w.heap.size + 1) 29 #[.int .i64 (n : Int), .slice A l.length c] := by
  subst hm
  obtain ⟨A', c', rfl⟩ := own_form hown
  have hlen : (l ++ [e]).length = l.length + 1 := by simp
  rw [← hlen] at hown ⊢
  have hne : ∀ k, (Value.slice A l.length c).ownBlock = some k → w.heap.size + 2 ≤ k := fun k hk => (hr.lt k hk).1
  have hs1 : w.heap.size + 1 < w1.heap.size := hB1.lt
  have hblk : Blk w2 (w.heap.size + 1) 29 #[.int .i64 (n : Int), .slice A l.length c] := (hB1.alloc o).grown hg (fun hh => by have := hne _ hh.symm; omega)
  have hblk0 : Blk w2 w.heap.size 29 #[.int .i64 0, .slice none 0 0] := (hR.alloc o).grown hg (fun hh => by have := hne _ hh.symm; omega)
  refine ⟨A', c', rfl, ⟨A', c', ?_, ownsRow_setCell_below hown (by simp) _, hblk0.far (by simp) _, ?_⟩, hblk⟩
  · have := hblk.set_ 1 (.slice A' (l ++ [e]).length c')
    simpa using this
  · exact ((hb.alloc (by omega) o).grown hg (by simp; omega) (fun k hk => by have := hne k hk; omega)).setCell (by simp) _

set_option maxHeartbeats 2000000 in
theorem graphWhere_any (n : Nat) (f : FuncId) (caps : Array Value) (J : Nat → Nat → Bool) (w : World) (hn : n ≤ 8) (h : Fn2 w f caps n J) :
    Calls Try.prog 72 #[.int .i64 (n : Int), .func (.func f) #[] caps] w fun e w' => ∃ A c, e = .returned (.agg #[.int .i64 (n : Int), .slice A (gw n J).length c]) ∧
      w'.ownsRow w.heap.size 90 2 (.slice A (gw n J).length c) (gw n J).length (cellsE (gw n J)) ∧ Below w.heap.size w w' := by
  obtain ⟨i0, hi, hz0, hz1, hz2⟩ := info_parts infoEd
  have hent := h.enter
  have HC := Lib.hid h.call
  have hmid0 : Mid w ((w.alloc (.cells #[.int .i64 0, .slice none 0 0] 29)).alloc (.cells #[.int .i64 (n : Int), .slice none 0 0] 29)) n [] :=
    ⟨none, 0, by simpa using Blk.new (w.alloc (.cells #[.int .i64 0, .slice none 0 0] 29)) 29 #[.int .i64 (n : Int), .slice none 0 0], World.ownsRow_nil _ _ _ _,
      (Blk.new w 29 #[.int .i64 0, .slice none 0 0]).alloc _, ((Below.refl _ _).alloc (Nat.le_refl _) _).alloc (by simp) _⟩
  clear h
  go_enter Try.func72, Try.ntmps72
  go_wp2_with fail
  go_loopg [11] n (fun g i wr => ∃ x : Nat, x + g = n ∧ i = .int .i64 (x : Int) ∧ Mid w wr n (gwTo J n x))
  case atStart => exact ⟨0, by omega, rfl, hmid0⟩
  case round =>
    obtain ⟨x, hxg, rfl, hmid⟩ := hrel
    cases gk with
    | zero =>
      obtain rfl : x = n := by omega
      obtain ⟨A, c, b1, hr, b0, hB⟩ := hmid
      obtain ⟨p0, p1, f0, f1⟩ := b1.two
      obtain ⟨q0, q1, z0, z1⟩ := b0.two
      have HR := Lib.hid hr
      have HB := Lib.hid hB
      clear b1 b0 hr hB
      go_wp2_with fail
      refine bodyPost_ret (v := .agg #[.int .i64 (x : Int), .slice A (gwTo J x x).length c]) (by simp [results, Try.results72, go_sem, q0, q1]) rfl ⟨A, c, rfl, ?_, ?_⟩
      · exact own_base (ownsRow_setCell_below (ownsRow_setCell_below HR.out (by simp) _) (by simp) _) (by omega)
      · exact (HB.out.setCell (Nat.le_refl _) _).setCell (Nat.le_refl _) _
    | succ g =>
      have hxn : x < n := by omega
      have hxn' : (x : Int) < (n : Int) := by omega
      go_wp2_with fail
      go_loopg [7] (n - (x + 1)) (fun g2 i wr => ∃ y : Nat, y + g2 = n ∧ x < y ∧ i = .int .i64 (y : Int) ∧ Mid w wr n (gwTo J n x ++ rowTo J x y))
      case atStart => exact ⟨x + 1, by omega, by omega, by go_num, by rw [rowTo_start J x (x + 1) (Nat.le_refl _), List.append_nil]; exact hmid⟩
      case round =>
        obtain ⟨y, hyg, hxy, rfl, hmid2⟩ := hrel
        cases gk with
        | zero =>
          obtain rfl : y = n := by omega
          have HM := Lib.hid hmid2
          clear hmid hmid2
          go_wp2_with fail
          go_roundg g
          case measure => omega
          case rel => exact ⟨x + 1, by omega, by go_num, by rw [gwTo_succ]; exact HM.out⟩
        | succ g2 =>
          have hyn : y < n := by omega
          have hyn' : (y : Int) < (n : Int) := by omega
          have hlen := gwTo_len64 J n x y hn (by omega) (by omega)
          have HCk := HC.out
          have HP := Lib.hid (fun (W : World) (hb : Below w.heap.size w W) => HCk W hb x y hxy hyn)
          clear HCk hmid
          obtain ⟨A, c, b1, hr, b0, hB⟩ := id hmid2
          have HM := Lib.hid hmid2
          by_cases hj : J x y = true
          · have HN := Lib.hid (rowTo_yes hxy hj)
            rw [hj] at HP
            have hl2 : (gwTo J n x ++ rowTo J x y) ++ [((x : Int), (y : Int))] = gwTo J n x ++ rowTo J x (y + 1) := by rw [HN.out, List.append_assoc]
            have HL := Lib.hid hl2
            clear hj hl2 hmid2 b1 hr b0 HN
            generalize gwTo J n x ++ rowTo J x y = l at *
            go_wp2_with fail
            refine (HP.out _ hB).mono ?_
            rintro e w1 ⟨rfl, hb⟩
            obtain ⟨A1, c1, b1, hr1, b0, hB1⟩ := HM.out.call hb
            obtain ⟨p0, p1, f0, f1⟩ := b1.two
            have hs1 := b1.lt
            clear hb hB
            go_wp2_with (at_builtin; refine wpList_append_own _ rfl _ _ 22 rfl (w.heap.size + 2) 90 i0 (.agg #[.int .i64 0, .int .i64 0]) 2 16 Try.underlying22 hi hz0 hz1 hz2 rfl (by decide) _ _ _ rfl (hr1.alloc _) ⟨w1.heap.size, 0, none⟩ 1 1 [.int .i64 (x : Int), .int .i64 (y : Int)] rfl rfl (cell_two_new _ _ _ _) (fun x hx => by simp at hx; rcases hx with rfl | rfl <;> rfl) (by unfold maxLen; omega) (by omega) (by simp; omega) ?_; intro v2 w2 hown2 hgrow2 _; obtain ⟨A2, c2, rfl, hm2, hk2⟩ := Mid.push (n := n) (e := ((x : Int), (y : Int))) b1 hr1 b0 hB1 (by rw [cellsE_app]; exact hown2) rfl hgrow2; obtain ⟨t0, t1, z0, z1⟩ := hk2.two; have HM2 := Lib.hid hm2; clear hm2 hown2 hgrow2 hk2 hr1)
            go_roundg g2
            case measure => omega
            case rel =>
              have t := HM2.out
              rw [show (l ++ [((x : Int), (y : Int))]).length = l.length + 1 from by simp] at t
              exact ⟨y + 1, by omega, by omega, by go_num, by rw [← HL.out]; exact t⟩
          · have hj' : J x y = false := by simpa using hj
            have HN := Lib.hid (rowTo_no (x := x) hj')
            rw [hj'] at HP
            clear hj hj' hmid2 b1 hr b0
            go_wp2_with fail
            refine (HP.out _ hB).mono ?_
            rintro e w1 ⟨rfl, hb⟩
            have hm1 := Lib.hid (HM.out.call hb)
            clear hb hB
            go_wp2_with fail
            go_roundg g2
            case measure => omega
            case rel => exact ⟨y + 1, by omega, by omega, by go_num, by rw [HN.out]; exact hm1.out⟩
end Go.Proofs.Ytgbdgenlmmofeaa.gws
