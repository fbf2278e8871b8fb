/- The contract of the program's ToggleEdge. -/
import Derived.Test.YtcnfeijniidclaaNearV
import Derived.Deep.DeepCutAuto
namespace Go.Proofs.Ytcnfeijniidclaa.togg
open Go.RowKit P2 words edges ints good near adjs fns gws rets mids nearv

def toggJ (l : List Ed) (lo hi : Int) (x y : Nat) : Bool := adj l x y != (((x : Int) == lo) && ((y : Int) == hi))
def toggL (s : Int) (l : List Ed) (x y : Int) : List Ed := gw s.toNat (toggJ l (min x y) (max x y))
def TogOk (s : Int) (l : List Ed) (x y : Int) : Prop := P2.Good s l ∧ (0 ≤ x ∧ x < s) ∧ (0 ≤ y ∧ y < s) ∧ x ≠ y
theorem ints_two {w : World} {g : Nat} {t : TypeId} {a b : Int} (h : Blk w g t #[.int .i64 a, .int .i64 b]) : Ints w (.slice (some ⟨g, 0, none⟩) 2 2) [a, b] := by
  refine ⟨_, _, rfl, fun _ => ⟨g, 0, rfl, by simp, fun j u hu => ?_⟩⟩
  rw [Nat.zero_add]
  refine (h.cell j).trans ?_
  rw [← hu]
  match j with
  | 0 => rfl
  | 1 => rfl
  | j + 2 => simp [cellsI]
theorem toggClo_fn (bl bh bn n : Nat) (lo hi s : Int) (l : List Ed) (w : World) (hg : P2.Good s l) (h1 : NearV w bn l) (h2 : w.cell? ⟨bl, 0, none⟩ = some (.int .i64 lo)) (h3 : w.cell? ⟨bh, 0, none⟩ = some (.int .i64 hi)) (hn : n ≤ 8) :
    Fn2 w 66 #[.pointer (some ⟨bl, 0, none⟩), .pointer (some ⟨bh, 0, none⟩), .pointer (some ⟨bn, 0, none⟩)] n (toggJ l lo hi) where
  enter := fun _ _ => by kernel_rfl
  call := fun W hb x y hxy hy => by
    obtain ⟨c, hc, hnr⟩ := h1.below hb
    have q2 := cell_keep h2 hb
    have q3 := cell_keep h3 hb
    have HN := Lib.hid (near_adj x y s c l W hg hnr (in64_small (by omega) (by omega)) (in64_small (by omega) (by omega)))
    have HJ : Hid ((adj l x y != (((x : Int) == lo) && ((y : Int) == hi))) = toggJ l lo hi x y) := rfl
    show Calls Try.prog 66 #[.int .i64 (x : Int), .int .i64 (y : Int), .pointer (some ⟨bl, 0, none⟩), .pointer (some ⟨bh, 0, none⟩), .pointer (some ⟨bn, 0, none⟩)] W _
    rw [← HJ.out]
    clear hnr hg h1 h2 h3 HJ
    generalize adj l x y = aj at *
    cases e1 : ((x : Int) == lo)
    all_goals
      (first
        | (cases e2 : ((y : Int) == hi)
           all_goals
             go_enter Try.func66, Try.ntmps66
             go_wp2_with fail
             refine HN.out.mono ?_
             rintro e w' ⟨rfl, rfl⟩
             go_wp2_with fail
             go_ret
             exact ⟨ret_bool (by cases aj <;> rfl), Below.refl _ _⟩))

set_option maxHeartbeats 1000000 in
set_option maxRecDepth 100000 in
theorem implTogg_any (s x y : Int) (v : Value) (l : List Ed) (w : World) (h : Edges w v l) (hl : l.length ≤ 1048576) :
    Calls Try.prog 30 #[.agg #[.int .i64 s, v], .int .i64 x, .int .i64 y] w (RetG w (TogOk s l x y) s (toggL s l x y)) := by
  obtain ⟨A, c, rfl, -⟩ := h.form
  have H := Lib.hid h
  have hmf : ∀ (fn : Fn) (first cap : Array Value) (w : World), (Instr.makeFunc fn first cap).run Try.prog w = .ok (.func fn first cap) w := fun _ _ _ _ => rfl
  have b0 : Below w.heap.size w (((w.alloc (.cells #[.int .i64 s, .slice A l.length c] 29)).alloc (.cells #[.int .i64 0, .slice none 0 0] 29)).alloc (.cells #[.int .i64 x, .int .i64 y] 3)) :=
    (((Below.refl _ _).alloc (Nat.le_refl _) _).alloc (by simp) _).alloc (by simp; omega) _
  have g0 := ((Blk.new w 29 #[.int .i64 s, .slice A l.length c]).alloc (.cells #[.int .i64 0, .slice none 0 0] 29)).alloc (.cells #[.int .i64 x, .int .i64 y] 3)
  have r0 := (Blk.new (w.alloc (.cells #[.int .i64 s, .slice A l.length c] 29)) 29 #[.int .i64 0, .slice none 0 0]).alloc (.cells #[.int .i64 x, .int .i64 y] 3)
  have i0 := ints_two (Blk.new ((w.alloc (.cells #[.int .i64 s, .slice A l.length c] 29)).alloc (.cells #[.int .i64 0, .slice none 0 0] 29)) 3 #[.int .i64 x, .int .i64 y])
  simp only [World.size_alloc] at r0 i0
  have HN := Lib.hid (hasNodes_any s _ _ l [x, y] _ (h.below b0) hl i0 (by simp))
  have hnl : ([x, y] : List Int).length = 2 := rfl
  clear h i0
  by_cases hg : TogOk s l x y
  · have hgd := hg.1
    have h0 := hgd.1
    have h8 := hgd.2.1
    obtain ⟨n, hn⟩ : ∃ n : Nat, s = (n : Int) := ⟨s.toNat, by omega⟩
    subst hn
    have hx := hg.2.1
    have hy := hg.2.2.1
    have hxy : (x == y) = false := by simpa using hg.2.2.2
    rw [nodesB_yes hgd (fun z hz => by simp at hz; rcases hz with rfl | rfl <;> assumption)] at HN
    have HOK := Lib.hid hg
    have HGD := Lib.hid hgd
    have hn8 : n ≤ 8 := by omega
    clear hg hgd
    go_enter Try.func30, Try.ntmps30
    go_wp2_with fail
    refine HN.out.mono ?_
    rintro e w1 ⟨rfl, b1⟩
    have e1 := btrans b0 b1
    have g1 := g0.below b1 g0.lt
    have r1 := r0.below b1 r0.lt
    obtain ⟨p0, p1, -, -⟩ := g1.two
    clear HN b0 b1 g0 r0
    go_wp2_with fail
    refine (neighborTest_any (n : Int) (.slice A l.length c) l w1 (H.out.below e1) hl (good64 HGD.out)).mono ?_
    rintro e w2 ⟨c2, rfl, n2, b2⟩
    have e2 := btrans e1 b2
    have g2 := g1.below b2 g1.lt
    have r2 := r1.below b2 r1.lt
    clear g1 r1 p0 p1 b2
    have hs2 := g2.lt
    have hne : x ≠ y := HOK.out.2.2.2
    have V := NearV.new (t := 63) n2
    clear n2
    rcases Int.lt_or_gt_of_ne hne with hlt | hlt
    · have E3 := ((e2.alloc e2.size (.cells #[.func (.func 91) #[] #[.pointer (some ⟨c2, 0, none⟩)]] 63)).alloc (by have := e2.size; simp; omega) (.cells #[.int .i64 x] 3)).alloc (by have := e2.size; simp; omega) (.cells #[.int .i64 y] 3)
      have g3 := ((g2.alloc (.cells #[.func (.func 91) #[] #[.pointer (some ⟨c2, 0, none⟩)]] 63)).alloc (.cells #[.int .i64 x] 3)).alloc (.cells #[.int .i64 y] 3)
      have r3 := ((r2.alloc (.cells #[.func (.func 91) #[] #[.pointer (some ⟨c2, 0, none⟩)]] 63)).alloc (.cells #[.int .i64 x] 3)).alloc (.cells #[.int .i64 y] 3)
      have v3 := V.below (((Below.refl _ _).alloc (Nat.le_refl _) (.cells #[.int .i64 x] 3)).alloc (by simp) (.cells #[.int .i64 y] 3))
      have l3 := ((Blk.new (w2.alloc (.cells #[.func (.func 91) #[] #[.pointer (some ⟨c2, 0, none⟩)]] 63)) 3 #[.int .i64 x]).alloc (.cells #[.int .i64 y] 3)).cell 0
      have h3 := (Blk.new ((w2.alloc (.cells #[.func (.func 91) #[] #[.pointer (some ⟨c2, 0, none⟩)]] 63)).alloc (.cells #[.int .i64 x] 3)) 3 #[.int .i64 y]).cell 0
      simp only [World.size_alloc] at l3 h3
      have F := Lib.hid (toggClo_fn (w2.heap.size + 1) (w2.heap.size + 1 + 1) w2.heap.size n x y (n : Int) l _ HGD.out v3 l3 h3 hn8)
      obtain ⟨p0, p1, -, -⟩ := g3.two
      have R3 := Lib.hid r3
      have HTL : Hid (toggL (n : Int) l x y = gw n (toggJ l x y)) := by unfold toggL; rw [show min x y = x from by omega, show max x y = y from by omega]; rfl
      have hle : x ≤ y := by omega
      have hnl2 : ¬ y < x := by omega
      have hnl3 : ¬ y ≤ x := by omega
      clear g3 r3 v3 l3 h3 V e2 g2 r2
      go_wp2_with fail
      refine (graphWhere_any n 66 _ _ _ hn8 F.out).mono ?_
      rintro e w3 ⟨A3, c3, rfl, o3, b3⟩
      have r4 := R3.out.below b3 R3.out.lt
      have HD := Lib.hid (Mid.done (n := (n : Int)) (own_base o3 (by simp only [World.size_alloc]; omega)) r4 (btrans E3 b3) (by omega))
      obtain ⟨q0, q1, z0, z1⟩ := r4.two
      clear o3 b3 r4 R3 F E3 p0 p1
      go_wp2_with fail
      refine bodyPost_ret (v := .tuple #[.agg #[.int .i64 (n : Int), .slice A3 (gw n (toggJ l x y)).length c3], .bool true]) (by simp [results, Try.results30, go_sem, q0, q1]) rfl (by have := RetG.yes (n := (n : Int)) (l := gw n (toggJ l x y)) HOK.out HD.out.1 HD.out.2; rwa [← HTL.out] at this ⊢)
    · have E3 := ((e2.alloc e2.size (.cells #[.func (.func 91) #[] #[.pointer (some ⟨c2, 0, none⟩)]] 63)).alloc (by have := e2.size; simp; omega) (.cells #[.int .i64 y] 3)).alloc (by have := e2.size; simp; omega) (.cells #[.int .i64 x] 3)
      have g3 := ((g2.alloc (.cells #[.func (.func 91) #[] #[.pointer (some ⟨c2, 0, none⟩)]] 63)).alloc (.cells #[.int .i64 y] 3)).alloc (.cells #[.int .i64 x] 3)
      have r3 := ((r2.alloc (.cells #[.func (.func 91) #[] #[.pointer (some ⟨c2, 0, none⟩)]] 63)).alloc (.cells #[.int .i64 y] 3)).alloc (.cells #[.int .i64 x] 3)
      have v3 := V.below (((Below.refl _ _).alloc (Nat.le_refl _) (.cells #[.int .i64 y] 3)).alloc (by simp) (.cells #[.int .i64 x] 3))
      have l3 := ((Blk.new (w2.alloc (.cells #[.func (.func 91) #[] #[.pointer (some ⟨c2, 0, none⟩)]] 63)) 3 #[.int .i64 y]).alloc (.cells #[.int .i64 x] 3)).cell 0
      have h3 := (Blk.new ((w2.alloc (.cells #[.func (.func 91) #[] #[.pointer (some ⟨c2, 0, none⟩)]] 63)).alloc (.cells #[.int .i64 y] 3)) 3 #[.int .i64 x]).cell 0
      simp only [World.size_alloc] at l3 h3
      have F := Lib.hid (toggClo_fn (w2.heap.size + 1) (w2.heap.size + 1 + 1) w2.heap.size n y x (n : Int) l _ HGD.out v3 l3 h3 hn8)
      obtain ⟨p0, p1, -, -⟩ := g3.two
      have R3 := Lib.hid r3
      have HTL : Hid (toggL (n : Int) l x y = gw n (toggJ l y x)) := by unfold toggL; rw [show min x y = y from by omega, show max x y = x from by omega]; rfl
      have hle : y ≤ x := by omega
      have hnl2 : ¬ x < y := by omega
      have hnl3 : ¬ x ≤ y := by omega
      clear g3 r3 v3 l3 h3 V e2 g2 r2
      go_wp2_with fail
      refine (graphWhere_any n 66 _ _ _ hn8 F.out).mono ?_
      rintro e w3 ⟨A3, c3, rfl, o3, b3⟩
      have r4 := R3.out.below b3 R3.out.lt
      have HD := Lib.hid (Mid.done (n := (n : Int)) (own_base o3 (by simp only [World.size_alloc]; omega)) r4 (btrans E3 b3) (by omega))
      obtain ⟨q0, q1, z0, z1⟩ := r4.two
      clear o3 b3 r4 R3 F E3 p0 p1
      go_wp2_with fail
      refine bodyPost_ret (v := .tuple #[.agg #[.int .i64 (n : Int), .slice A3 (gw n (toggJ l y x)).length c3], .bool true]) (by simp [results, Try.results30, go_sem, q0, q1]) rfl (by have := RetG.yes (n := (n : Int)) (l := gw n (toggJ l y x)) HOK.out HD.out.1 HD.out.2; rwa [← HTL.out] at this ⊢)
  · have HNO := Lib.hid hg
    by_cases hnd : P2.Good s l ∧ ∀ z ∈ [x, y], 0 ≤ z ∧ z < s
    · rw [nodesB_yes hnd.1 hnd.2] at HN
      have hx := hnd.2 x (by simp)
      have hy := hnd.2 y (by simp)
      obtain rfl : x = y := by
        apply Classical.byContradiction
        exact fun hne => hg ⟨hnd.1, hx, hy, hne⟩
      clear hg hnd
      go_enter Try.func30, Try.ntmps30
      go_wp2_with fail
      refine HN.out.mono ?_
      rintro e w1 ⟨rfl, b1⟩
      have e1 := btrans b0 b1
      have r1 := r0.below b1 r0.lt
      obtain ⟨q0, q1, z0, z1⟩ := r1.two
      clear HN b0 b1 g0 r0 r1
      go_wp2_with fail
      refine bodyPost_ret (v := .tuple #[.agg #[.int .i64 0, .slice none 0 0], .bool false]) (by simp [results, Try.results30, go_sem, q0, q1]) rfl (RetG.no HNO.out ?_)
      first | exact e1 | exact (e1.setCell (by simp) _).setCell (by simp) _
    · rw [nodesB_no hnd] at HN
      clear hg hnd
      go_enter Try.func30, Try.ntmps30
      go_wp2_with fail
      refine HN.out.mono ?_
      rintro e w1 ⟨rfl, b1⟩
      have e1 := btrans b0 b1
      have r1 := r0.below b1 r0.lt
      obtain ⟨q0, q1, z0, z1⟩ := r1.two
      clear HN b0 b1 g0 r0 r1
      go_wp2_with fail
      refine bodyPost_ret (v := .tuple #[.agg #[.int .i64 0, .slice none 0 0], .bool false]) (by simp [results, Try.results30, go_sem, q0, q1]) rfl (RetG.no HNO.out ?_)
      first | exact e1 | exact (e1.setCell (by simp) _).setCell (by simp) _
end Go.Proofs.Ytcnfeijniidclaa.togg
