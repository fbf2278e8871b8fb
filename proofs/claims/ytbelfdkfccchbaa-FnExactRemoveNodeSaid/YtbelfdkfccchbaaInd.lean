/- The contracts of InducedGraph and RemoveNode: of the program and of the model. -/
import Derived.Test.YtbelfdkfccchbaaNearV
import Derived.Test.YtbelfdkfccchbaaSets
import Derived.Deep.DeepCutAuto
namespace Go.Proofs.Ytbelfdkfccchbaa.inds
open Go.RowKit P2 words edges ints good near adjs fns gws rets mids nearv sets
set_option linter.unusedVariables false

def indJ (l : List Ed) (xs : List Int) (i k : Nat) : Bool := adj l (xs.getD i 0) (xs.getD k 0)
def indL (l : List Ed) (xs : List Int) : List Ed := gw xs.length (indJ l xs)
theorem getD_at {xs : List Int} {i : Nat} {x : Int} (h : xs[i]? = some x) : xs.getD i 0 = x := by simp [List.getD_eq_getElem?_getD, h]
theorem setOk_len {s : Int} {l : List Ed} {xs : List Int} (h : SetOk s l xs) : xs.length ≤ 8 := by
  obtain ⟨h1, h2, h3⟩ := h
  have h0 := h1.1
  obtain ⟨n, rfl⟩ : ∃ n : Nat, s = (n : Int) := ⟨s.toNat, by omega⟩
  have := asc_len h3 h2
  have := h1.2.1
  omega

theorem indClo_fn (bn bs n : Nat) (s : Int) (l : List Ed) (A : Option Addr) (c : Nat) (xs : List Int) (w : World) (hg : P2.Good s l) (h1 : NearV w bn l)
    (h2 : w.cell? ⟨bs, 0, none⟩ = some (.slice A xs.length c)) (h3 : Ints w (.slice A xs.length c) xs) (hx : ∀ x ∈ xs, In64 x) (hn : n = xs.length) :
    Fn2 w 99 #[.pointer (some ⟨bn, 0, none⟩), .pointer (some ⟨bs, 0, none⟩)] n (indJ l xs) where
  enter := fun _ _ => by kernel_rfl
  call := fun W hb i k hik hk => by
    subst hn
    obtain ⟨c1, hc, hnr⟩ := h1.below hb
    have q0 := cell_keep h2 hb
    have h4 : Ints W (.slice A xs.length c) xs := h3.below hb
    obtain ⟨x, hxi⟩ : ∃ x, xs[i]? = some x := ⟨_, List.getElem?_eq_getElem (by omega)⟩
    obtain ⟨y, hyk⟩ : ∃ y, xs[k]? = some y := ⟨_, List.getElem?_eq_getElem hk⟩
    have HN := Lib.hid (fun (nq : Nat) => near_adj x y s c1 l (W.drewN nq) hg hnr (hx x (List.mem_of_getElem? hxi)) (hx y (List.mem_of_getElem? hyk)))
    have HJ : Hid (adj l x y = indJ l xs i k) := by show _ = _; unfold indJ; rw [getD_at hxi, getD_at hyk]
    obtain ⟨A', c', he, hc4⟩ := h4.form
    obtain ⟨rfl, rfl⟩ : A = A' ∧ c = c' := by simpa using he
    obtain ⟨g, o, rfl, r0⟩ := hc4 i x hxi
    obtain ⟨g', o', he', r1⟩ := hc4 k y hyk
    obtain ⟨rfl, rfl⟩ : g = g' ∧ o = o' := by simpa using he'
    have hj1 : (i : Int) < (xs.length : Int) := by omega
    have hj2 : (k : Int) < (xs.length : Int) := by omega
    have hj3 : (0 : Int) ≤ (i : Int) := by omega
    have hj4 : (0 : Int) ≤ (k : Int) := by omega
    show Calls Try.prog 99 #[.int .i64 (i : Int), .int .i64 (k : Int), .pointer (some ⟨bn, 0, none⟩), .pointer (some ⟨bs, 0, none⟩)] W _
    rw [← HJ.out]
    clear hnr hg h1 h2 h3 hx h4 hc4 hxi hyk he he' HJ
    go_enter Try.func99, Try.ntmps99
    go_wp2_with fail
    go_quiet ((go_at_call 111; exact quiet_left (HN.out _)))
    go_wp2_with fail
    go_ret
    exact ⟨rfl, below_drewN (Below.refl _ _) _⟩

theorem remClo_fn (x : Int) (bx n : Nat) (w : World) (h2 : w.cell? ⟨bx, 0, none⟩ = some (.int .i64 x)) :
    Fn1 w 102 #[.pointer (some ⟨bx, 0, none⟩)] n (fun y => (y : Int) != x) where
  enter := fun _ _ => by kernel_rfl
  call := fun W hb y hy => by
    have q0 := cell_keep h2 hb
    show Calls Try.prog 102 #[.int .i64 (y : Int), .pointer (some ⟨bx, 0, none⟩)] W _
    go_enter Try.func102, Try.ntmps102
    go_wp2_with fail
    go_ret
    exact ⟨rfl, Below.refl _ _⟩

set_option maxHeartbeats 1000000 in
set_option maxRecDepth 100000 in
theorem implInd_any (s : Int) (v u : Value) (l : List Ed) (xs : List Int) (w : World) (h : Edges w v l) (hl : l.length ≤ 1048576) (hu : Ints w u xs) (hxl : xs.length ≤ 1048576) :
    Calls Try.prog 56 #[.agg #[.int .i64 s, v], u] w (RetG w (SetOk s l xs) xs.length (indL l xs)) := by
  obtain ⟨A, c, rfl, -⟩ := h.form
  obtain ⟨A2, c2, rfl, -⟩ := hu.form
  have H := Lib.hid h
  have HU := Lib.hid hu
  have hmf : ∀ (fn : Fn) (first cap : Array Value) (w : World), (Instr.makeFunc fn first cap).run Try.prog w = .ok (.func fn first cap) w := fun _ _ _ _ => rfl
  have b0 : Below w.heap.size w (((w.alloc (.cells #[.int .i64 s, .slice A l.length c] 26)).alloc (.cells #[.slice A2 xs.length c2] 38)).alloc (.cells #[.int .i64 0, .slice none 0 0] 26)) :=
    (((Below.refl _ _).alloc (Nat.le_refl _) _).alloc (by simp) _).alloc (by simp; omega) _
  have g0 := ((Blk.new w 26 #[.int .i64 s, .slice A l.length c]).alloc (.cells #[.slice A2 xs.length c2] 38)).alloc (.cells #[.int .i64 0, .slice none 0 0] 26)
  have x0 := (Blk.new (w.alloc (.cells #[.int .i64 s, .slice A l.length c] 26)) 38 #[.slice A2 xs.length c2]).alloc (.cells #[.int .i64 0, .slice none 0 0] 26)
  have r0 := Blk.new ((w.alloc (.cells #[.int .i64 s, .slice A l.length c] 26)).alloc (.cells #[.slice A2 xs.length c2] 38)) 26 #[.int .i64 0, .slice none 0 0]
  simp only [World.size_alloc] at x0 r0
  have HG := Lib.hid (hasSet_any s _ _ l xs _ (h.below b0) hl (hu.below b0) hxl)
  clear h hu
  by_cases hg : SetOk s l xs
  · rw [okG_yes hg] at HG
    have hx8 := setOk_len hg
    have HGD := Lib.hid hg
    have HX : Hid (∀ x ∈ xs, In64 x) := fun x hx => by have := hg.2.1 x hx; have := hg.1.2.1; exact in64_small (by omega) (by omega)
    clear hg
    go_enter Try.func56, Try.ntmps56
    go_wp2_with fail
    refine HG.out.mono ?_
    rintro e w1 ⟨rfl, b1⟩
    have e_w1 := btrans b0 b1
    have g1 := g0.below b1 g0.lt
    have x1 := x0.below b1 x0.lt
    have r1 := r0.below b1 r0.lt
    obtain ⟨p0, p1, -, -⟩ := g1.two
    clear HG b0 b1 g0 x0 r0
    go_wp2_with fail
    refine (neighborTest_any s (.slice A l.length c) l w1 (H.out.below e_w1) hl (good64 HGD.out.1)).mono ?_
    rintro e w2 ⟨cn, rfl, n2, b2⟩
    have e_w2 := btrans e_w1 b2
    have x2 := x1.below b2 x1.lt
    have r2 := r1.below b2 r1.lt
    clear g1 x1 r1 p0 p1 b2 e_w1
    obtain ⟨m0, -⟩ := x2.one
    have x3 := x2.alloc (.cells #[.func (.func 111) #[] #[.pointer (some ⟨cn, 0, none⟩)]] 70)
    have F := Lib.hid (indClo_fn w2.heap.size (w.heap.size + 1) xs.length s l A2 c2 xs _ HGD.out.1 (NearV.new (t := 70) n2) (x3.cell 0) ((HU.out.below e_w2).below ((Below.refl _ _).alloc (Nat.le_refl _) _)) HX.out rfl)
    have hs2 := x2.lt
    clear n2 x3
    go_wp2_with fail
    refine (graphWhere_any xs.length 99 _ _ _ hx8 F.out).mono ?_
    rintro e w3 ⟨A3, c3, rfl, o3, b3⟩
    have r3 := (r2.alloc (.cells #[.func (.func 111) #[] #[.pointer (some ⟨cn, 0, none⟩)]] 70)).below b3 (r2.alloc _).lt
    have HD := Lib.hid (Mid.done (n := (xs.length : Int)) (own_base o3 (by rw [World.size_alloc]; omega)) r3 (btrans (e_w2.alloc e_w2.size _) b3) (by omega))
    obtain ⟨q0, q1, z0, z1⟩ := r3.two
    clear o3 b3 r3 r2 x2 m0 F
    go_wp2_with fail
    refine bodyPost_ret (v := .tuple #[.agg #[.int .i64 ((xs.length : Int)), .slice A3 (gw xs.length (indJ l xs)).length c3], .bool true]) (by simp [results, Try.results56, go_sem, q0, q1]) rfl (RetG.yes (l := indL l xs) HGD.out HD.out.1 HD.out.2)
  · rw [okG_no hg] at HG
    have HN := Lib.hid hg
    clear hg
    go_enter Try.func56, Try.ntmps56
    go_wp2_with fail
    refine HG.out.mono ?_
    rintro e w1 ⟨rfl, b1⟩
    have e_w1 := btrans b0 b1
    have r1 := r0.below b1 r0.lt
    obtain ⟨q0, q1, z0, z1⟩ := r1.two
    clear HG b0 b1 g0 r0 r1
    go_wp2_with fail
    refine bodyPost_ret (v := .tuple #[.agg #[.int .i64 0, .slice none 0 0], .bool false]) (by simp [results, Try.results56, go_sem, q0, q1]) rfl (RetG.no HN.out (by have hz_ := (e_w1).size; have hb_ := e_w1; go_grown))

theorem implInd_yes (s : Int) (v u : Value) (l : List Ed) (xs : List Int) (w : World) (h : Edges w v l) (hl : l.length ≤ 1048576) (hu : Ints w u xs) (hxl : xs.length ≤ 1048576) (hg : SetOk s l xs) :
    Calls Try.prog 56 #[.agg #[.int .i64 s, v], u] w fun e w' => ∃ A c, e = .returned (.tuple #[.agg #[.int .i64 (xs.length : Int), .slice A (indL l xs).length c], .bool true]) ∧
      w'.ownsRow w.heap.size 75 2 (.slice A (indL l xs).length c) (indL l xs).length (cellsE (indL l xs)) ∧ Below w.heap.size w w' :=
  (implInd_any s v u l xs w h hl hu hxl).mono fun e w' hr => by
    unfold RetG at hr
    rw [szG_yes hg, edG_yes hg, okG_yes hg] at hr
    exact hr
theorem retG_below {w w' : World} {p : Prop} {n : Int} {l : List Ed} {e : Ending} (h : RetG w p n l e w') : Below w.heap.size w w' := by
  obtain ⟨_, _, _, _, h⟩ := h; exact h
/-- the nodes of a Graph but one -/
def remL (l : List Ed) (s x : Int) : List Ed := indL l (but (allN s.toNat) x)
def RemOk (s : Int) (l : List Ed) (x : Int) : Prop := P2.Good s l ∧ 0 ≤ x ∧ x < s
theorem nw_but (n : Nat) (x : Int) : nw (fun y => (y : Int) != x) n = but (allN n) x := by
  unfold nw but allN
  rw [List.filter_map]
  rfl
theorem but_ok {s : Int} {l : List Ed} {x : Int} (h : RemOk s l x) : SetOk s l (but (allN s.toNat) x) := by
  have h0 := h.1.1
  refine ⟨h.1, fun y hy => ?_, ?_⟩
  · have := mem_allN.1 (List.mem_filter.1 hy).1
    omega
  · refine List.Pairwise.sublist List.filter_sublist ?_
    unfold allN
    rw [List.pairwise_map]
    exact List.pairwise_lt_range.imp (fun h => by omega)
theorem but_len {n : Nat} {x : Int} (h0 : 0 ≤ x) (h1 : x < n) : (but (allN n) x).length = n - 1 := by
  have key : ∀ m : Nat, (but (allN m) x).length = if x < m then m - 1 else m := by
    intro m
    induction m with
    | zero => simp [but, allN]
    | succ m ih =>
      have e : but (allN (m + 1)) x = but (allN m) x ++ but [(m : Int)] x := by
        unfold but allN
        rw [List.range_succ, List.map_append, List.filter_append]; rfl
      rw [e, List.length_append, ih]
      by_cases hx : (m : Int) = x
      · subst hx
        simp [but]; omega
      · have : but [(m : Int)] x = [(m : Int)] := by simp [but, hx]
        rw [this]
        simp only [List.length_singleton]
        split <;> split <;> omega
  rw [key n, if_pos h1]

set_option maxHeartbeats 1000000 in
set_option maxRecDepth 100000 in
theorem implRem_any (s x : Int) (v : Value) (l : List Ed) (w : World) (h : Edges w v l) (hl : l.length ≤ 1048576) :
    Calls Try.prog 59 #[.agg #[.int .i64 s, v], .int .i64 x] w (RetG w (RemOk s l x) (s - 1) (remL l s x)) := by
  obtain ⟨A, c, rfl, -⟩ := h.form
  have H := Lib.hid h
  have hmf : ∀ (fn : Fn) (first cap : Array Value) (w : World), (Instr.makeFunc fn first cap).run Try.prog w = .ok (.func fn first cap) w := fun _ _ _ _ => rfl
  have b0 : Below w.heap.size w ((((w.alloc (.cells #[.int .i64 s, .slice A l.length c] 26)).alloc (.cells #[.int .i64 x] 3)).alloc (.cells #[.int .i64 0, .slice none 0 0] 26)).alloc (.cells #[.int .i64 x] 3)) := by
    repeat refine Below.alloc ?_ (by first | exact Nat.le_refl _ | (simp only [World.size_alloc]; omega)) _
    exact Below.refl _ _
  have g0 := (((Blk.new w 26 #[.int .i64 s, .slice A l.length c]).alloc (.cells #[.int .i64 x] 3)).alloc (.cells #[.int .i64 0, .slice none 0 0] 26)).alloc (.cells #[.int .i64 x] 3)
  have x0 := ((Blk.new (w.alloc (.cells #[.int .i64 s, .slice A l.length c] 26)) 3 #[.int .i64 x]).alloc (.cells #[.int .i64 0, .slice none 0 0] 26)).alloc (.cells #[.int .i64 x] 3)
  have r0 := (Blk.new ((w.alloc (.cells #[.int .i64 s, .slice A l.length c] 26)).alloc (.cells #[.int .i64 x] 3)) 26 #[.int .i64 0, .slice none 0 0]).alloc (.cells #[.int .i64 x] 3)
  have i0 := Reads.of_own (own_new1 (((w.alloc (.cells #[.int .i64 s, .slice A l.length c] 26)).alloc (.cells #[.int .i64 x] 3)).alloc (.cells #[.int .i64 0, .slice none 0 0] 26)) 3 x)
  simp only [World.size_alloc] at x0 r0 i0
  have HG := Lib.hid (hasNodes_any s (.slice A l.length c) (.slice (some ⟨w.heap.size + 1 + 1 + 1, 0, none⟩) 1 1) l [x] _ (h.below b0) hl i0 (by simp))
  clear h i0
  by_cases hg : RemOk s l x
  · rw [nodesB_yes hg.1 (by simpa using hg.2)] at HG
    have h0 := hg.1.1
    have h8 := hg.1.2.1
    obtain ⟨n, hn⟩ : ∃ n : Nat, s = (n : Int) := ⟨s.toNat, by omega⟩
    subst hn
    have HB := Lib.hid (but_len hg.2.1 hg.2.2)
    have HS := Lib.hid (but_ok hg)
    have HGD := Lib.hid hg
    have hn8 : n ≤ 8 := by omega
    have hn1 : 1 ≤ n := by have := hg.2; omega
    clear hg
    go_enter Try.func59, Try.ntmps59
    go_wp2_with fail
    refine HG.out.mono ?_
    rintro e w1 ⟨rfl, b1⟩
    have e_w1 := btrans b0 b1
    have g1 := g0.below b1 g0.lt
    have x1 := x0.below b1 x0.lt
    have r1 := r0.below b1 r0.lt
    obtain ⟨p0, p1, -, -⟩ := g1.two
    obtain ⟨m0, -⟩ := x1.one
    have F := Lib.hid (fun (W : World) (hW : W.cell? ⟨w.heap.size + 1, 0, none⟩ = some (.int .i64 x)) => nodesWhere_any n 102 #[.pointer (some ⟨w.heap.size + 1, 0, none⟩)] _ W hn8 (remClo_fn x (w.heap.size + 1) n W hW))
    rw [nw_but] at F
    clear HG b0 b1 g0 x0 r0
    have y1 := g1.lt
    have y2 := r1.lt
    go_wp2_with fail
    obtain ⟨q0, q1, z0, z1⟩ := r1.two
    go_region_with
      (first
        | (go_at_call 83; refine (F.out w1.drew m0).mono ?_; rintro e w2 ⟨A2, c2, rfl, o2, b2⟩; have d2 : Below w1.heap.size w1 w2 := (Below.refl _ _).drew.trans b2; have g2 := g1.below d2 g1.lt; have r2 := r1.below d2 r1.lt; obtain ⟨k0, k1, -, -⟩ := g2.two; obtain ⟨k2, k3, k4, k5⟩ := r2.two)
        | (go_at_call 56; refine (implInd_yes (n : Int) (.slice A l.length c) (.slice A2 (but (allN n) x).length c2) l (but (allN n) x) w2 (H.out.below (btrans e_w1 d2)) hl (Reads.of_own o2) (by rw [HB.out]; omega) HS.out).mono ?_; rintro e w3 ⟨A3, c3, rfl, o3, b3⟩; have g3 := g2.below b3 g2.lt; have r3 := r2.below b3 r2.lt; obtain ⟨k6, k7, -, -⟩ := g3.two; obtain ⟨k8, k9, k10, k11⟩ := r3.two))
    all_goals
      have e_w2 : Below w.heap.size w w2 := btrans e_w1 d2
      rw [HB.out] at *
      have HD := Lib.hid (Mid.done (n := ((n - 1 : Nat) : Int)) (own_base o3 e_w2.size) r3 (btrans e_w2 b3) (by omega))
      have HE : Hid (((n - 1 : Nat) : Int) = (n : Int) - 1) := by show _ = _; omega
      clear o3 b3 r3 r1 o2 b2 g1 x1 p0 p1 m0 k0 k1 k2 k3 k4 k5 k6 k7 g2 r2 g3 q0 q1 z0 z1
      go_wp2_with fail
      rw [← HE.out]
      refine bodyPost_ret (v := .tuple #[.agg #[.int .i64 (((n - 1 : Nat) : Int)), .slice A3 (indL l (but (allN n) x)).length c3], .bool true]) (by simp [results, Try.results59, go_sem, k8, k9]) rfl (RetG.yes (l := remL l (n : Int) x) HGD.out HD.out.1 HD.out.2)
  · rw [nodesB_no (fun hh => hg ⟨hh.1, hh.2 x (by simp)⟩)] at HG
    have HN := Lib.hid hg
    clear hg
    go_enter Try.func59, Try.ntmps59
    go_wp2_with fail
    refine HG.out.mono ?_
    rintro e w1 ⟨rfl, b1⟩
    have e_w1 := btrans b0 b1
    have r1 := r0.below b1 r0.lt
    obtain ⟨q0, q1, z0, z1⟩ := r1.two
    clear HG b0 b1 g0 r0 r1
    go_wp2_with fail
    refine bodyPost_ret (v := .tuple #[.agg #[.int .i64 0, .slice none 0 0], .bool false]) (by simp [results, Try.results59, go_sem, q0, q1]) rfl (RetG.no HN.out (by have hz_ := (e_w1).size; have hb_ := e_w1; go_grown))

set_option maxHeartbeats 2000000 in
set_option maxRecDepth 100000 in
theorem l2Ind_any (s : Int) (v u : Value) (l : List Ed) (xs : List Int) (w : World) (h : Edges w v l) (hl : l.length ≤ 1048576) (hu : Ints w u xs) (hx8 : xs.length ≤ 8) :
    Calls Try.prog 97 #[.agg #[.int .i64 s, v], u] w fun e w' => ∃ A c, e = .returned (.agg #[.int .i64 xs.length, .slice A (indL l xs).length c]) ∧
      w'.ownsRow w.heap.size 75 2 (.slice A (indL l xs).length c) (indL l xs).length (cellsE (indL l xs)) ∧ Below w.heap.size w w' := by
  obtain ⟨i0, hi, hz0, hz1, hz2⟩ := info_parts infoEd
  obtain ⟨A, c, rfl, -⟩ := h.form
  obtain ⟨A2, c2, rfl, hc⟩ := hu.form
  have H := Lib.hid h
  have HC := Lib.hid hc
  have e0 : Below w.heap.size w ((w.alloc (.cells #[.int .i64 s, .slice A l.length c] 26)).alloc (.cells #[.int .i64 0, .slice none 0 0] 26)) :=
    ((Below.refl _ _).alloc (Nat.le_refl _) _).alloc (by simp) _
  have g0 := (Blk.new w 26 #[.int .i64 s, .slice A l.length c]).alloc (.cells #[.int .i64 0, .slice none 0 0] 26)
  have r0 := Blk.new (w.alloc (.cells #[.int .i64 s, .slice A l.length c] 26)) 26 #[.int .i64 0, .slice none 0 0]
  rw [World.size_alloc] at r0
  have M1 := Lib.hid (mid_new (xs.length : Int) r0 e0 (by omega))
  have G1 := Lib.hid ((g0.alloc (.cells #[] 75)).alloc (.cells #[.int .i64 (xs.length : Int), .slice (some ⟨((w.alloc (.cells #[.int .i64 s, .slice A l.length c] 26)).alloc (.cells #[.int .i64 0, .slice none 0 0] 26)).heap.size, 0, none⟩) 0 0] 26))
  simp only [World.size_alloc] at M1 G1
  clear h hu hc e0 g0 r0
  go_enter Try.func97, Try.ntmps97
  go_wp2_with fail
  go_loopg [6] xs.length (fun g i wr => ∃ x : Nat, x + g = xs.length ∧ i = .int .i64 (x : Int) ∧ Mid w wr (w.heap.size + 1) (w.heap.size + 1 + 1 + 1) (xs.length : Int) (gwTo (indJ l xs) xs.length x) ∧ Blk wr w.heap.size 26 #[.int .i64 s, .slice A l.length c])
  case atStart => exact ⟨0, by omega, rfl, M1.out, G1.out⟩
  case round =>
    obtain ⟨x, hxg, rfl, hmid, hgb⟩ := hrel
    obtain ⟨p0, p1, -, -⟩ := hgb.two
    cases gk with
    | zero =>
      obtain rfl : x = xs.length := by omega
      obtain ⟨A3, c3, bO, hr, bR, hB, h5⟩ := hmid
      obtain ⟨o0, o1, f0, f1⟩ := bO.two
      have HD := Lib.hid (Mid.done (n := (xs.length : Int)) hr bR hB h5.1)
      obtain ⟨q0, q1, z0, z1⟩ := bR.two
      clear bO hr bR hB h5
      go_wp2_with fail
      refine bodyPost_ret (v := .agg #[.int .i64 (xs.length : Int), .slice A3 (gwTo (indJ l xs) xs.length xs.length).length c3]) (by simp [results, Try.results97, go_sem, q0, q1]) rfl ⟨A3, c3, rfl, HD.out.1, HD.out.2⟩
    | succ g =>
      have hxn : x < xs.length := by omega
      have hxn' : (x : Int) < (xs.length : Int) := by omega
      go_wp2_with fail
      go_loopg [7] (xs.length - (x + 1)) (fun g2 i wr => ∃ y : Nat, y + g2 = xs.length ∧ x < y ∧ i = .int .i64 (y : Int) ∧ Mid w wr (w.heap.size + 1) (w.heap.size + 1 + 1 + 1) (xs.length : Int) (gwTo (indJ l xs) xs.length x ++ rowTo (indJ l xs) x y) ∧ Blk wr w.heap.size 26 #[.int .i64 s, .slice A l.length c])
      case atStart => exact ⟨x + 1, by omega, by omega, by go_num, by rw [rowTo_start (indJ l xs) x (x + 1) (Nat.le_refl _), List.append_nil]; exact hmid, hgb⟩
      case round =>
        clear p0 p1
        obtain ⟨y, hyg, hxy, rfl, hmid2, hgb2⟩ := hrel
        obtain ⟨p0, p1, -, -⟩ := hgb2.two
        have hM2 := Lib.hid hmid2
        obtain ⟨_, _, _, _, _, hB0, _⟩ := hmid2
        cases gk with
        | zero =>
          obtain rfl : y = xs.length := by omega
          clear hmid
          go_wp2_with fail
          go_roundg g
          case measure => omega
          case rel => exact ⟨x + 1, by omega, by go_num, by rw [gwTo_succ]; exact hM2.out, hgb2⟩
        | succ g2 =>
          have hyn : y < xs.length := by omega
          have hyn' : (y : Int) < (xs.length : Int) := by omega
          have hlen := gwTo_len64 (indJ l xs) xs.length x y hx8 (by omega) (by omega)
          obtain ⟨a, ha⟩ : ∃ a, xs[x]? = some a := ⟨_, List.getElem?_eq_getElem hxn⟩
          obtain ⟨b, hb⟩ : ∃ b, xs[y]? = some b := ⟨_, List.getElem?_eq_getElem hyn⟩
          obtain ⟨ga, oa, rfl, c0⟩ := HC.out x a ha
          obtain ⟨gb, ob, e', c1⟩ := HC.out y b hb
          obtain ⟨rfl, rfl⟩ : ga = gb ∧ oa = ob := by simpa using e'
          have m0 : wr.cell? ⟨ga, oa + x, none⟩ = some (.int .i64 a) := cell_keep c0 hB0
          have m1 : wr.cell? ⟨ga, oa + y, none⟩ = some (.int .i64 b) := cell_keep c1 hB0
          have HNR := Lib.hid (l2Near_any s a b (.slice A l.length c) l wr.drew (H.out.below hB0.drew) hl)
          have HJ : Hid (adj l a b = indJ l xs x y) := by show _ = _; unfold indJ; rw [getD_at ha, getD_at hb]
          have hj3 : (0 : Int) ≤ (x : Int) := by omega
          have hj4 : (0 : Int) ≤ (y : Int) := by omega
          rw [HJ.out] at HNR
          clear c0 c1 e' ha hb HJ
          cases hj : indJ l xs x y with
          | false =>
            have HN := Lib.hid (rowTo_no (J := indJ l xs) (x := x) (y := y) hj)
            rw [hj] at HNR
            clear hmid hj
            go_wp2_with fail
            go_region_held3 (fun w' => w'.cell? ⟨w.heap.size, 0, none⟩ = some (.int .i64 s) ∧ w'.cell? ⟨w.heap.size, 1, none⟩ = some (.slice A l.length c) ∧ w'.cell? ⟨ga, oa + x, none⟩ = some (.int .i64 a) ∧ w'.cell? ⟨ga, oa + y, none⟩ = some (.int .i64 b)) (go_keep)
              ((go_at_call 73; refine (keep4 HNR.out (p := ⟨w.heap.size, 0, none⟩) (q := ⟨w.heap.size, 1, none⟩) (r := ⟨ga, oa + x, none⟩) (s := ⟨ga, oa + y, none⟩) (a := .int .i64 s) (b := .slice A l.length c) (c := .int .i64 a) (d := .int .i64 b) ?_ ?_ ?_ ?_).mono ?_; (simp [*]); (simp [*]); (simp [*]); (simp [*]); rintro e w3 ⟨rfl, k0, k1, k2, k3, b3⟩))
            replace b3 : Below wr.heap.size wr w3 := (Below.refl _ _).drew.trans b3
            have hM3 := Lib.hid (hM2.out.call b3)
            have hgb3 := Lib.hid (hgb2.below b3 hgb2.lt)
            clear b3 p0 p1 hgb2 m0 m1 k0 k1 k2 k3
            go_wp2_with fail
            go_roundg g2
            case measure => omega
            case rel => exact ⟨y + 1, by omega, by omega, by go_num, by rw [HN.out]; exact hM3.out, hgb3.out⟩
          | true =>
            have HN := Lib.hid (show (gwTo (indJ l xs) xs.length x ++ rowTo (indJ l xs) x y) ++ [((x : Int), (y : Int))] = gwTo (indJ l xs) xs.length x ++ rowTo (indJ l xs) x (y + 1) from by rw [rowTo_yes hxy hj, List.append_assoc])
            rw [hj] at HNR
            clear hmid hj
            generalize gwTo (indJ l xs) xs.length x ++ rowTo (indJ l xs) x y = m at *
            go_wp2_with fail
            go_region_held3 (fun w' => w'.cell? ⟨w.heap.size, 0, none⟩ = some (.int .i64 s) ∧ w'.cell? ⟨w.heap.size, 1, none⟩ = some (.slice A l.length c) ∧ w'.cell? ⟨ga, oa + x, none⟩ = some (.int .i64 a) ∧ w'.cell? ⟨ga, oa + y, none⟩ = some (.int .i64 b)) (go_keep)
              ((go_at_call 73; refine (keep4 HNR.out (p := ⟨w.heap.size, 0, none⟩) (q := ⟨w.heap.size, 1, none⟩) (r := ⟨ga, oa + x, none⟩) (s := ⟨ga, oa + y, none⟩) (a := .int .i64 s) (b := .slice A l.length c) (c := .int .i64 a) (d := .int .i64 b) ?_ ?_ ?_ ?_).mono ?_; (simp [*]); (simp [*]); (simp [*]); (simp [*]); rintro e w3 ⟨rfl, k0, k1, k2, k3, b3⟩))
            replace b3 : Below wr.heap.size wr w3 := (Below.refl _ _).drew.trans b3
            have hM3 := Lib.hid (hM2.out.call b3)
            have hgb3 := Lib.hid (hgb2.below b3 hgb2.lt)
            clear b3 p0 p1 hgb2 m0 m1 k0 k1 k2 k3
            obtain ⟨A3, c3, bO, hr, bR, hB, h5⟩ := hM3.out
            have hgb4 := hgb3.out
            obtain ⟨o0, o1, f0, f1⟩ := bO.two
            have hsO := bO.lt
            have hsz := hB.size
            have HB := Lib.hid hB
            have H5 := Lib.hid h5
            clear hB h5
            go_wp2_with (at_builtin; refine wpList_append_own _ rfl _ _ 24 rfl w.heap.size 75 i0 (.agg #[.int .i64 0, .int .i64 0]) 2 16 Try.underlying24 hi hz0 hz1 hz2 rfl (by decide) _ _ _ rfl (hr.alloc _) ⟨w3.heap.size, 0, none⟩ 1 1 [.int .i64 (x : Int), .int .i64 (y : Int)] rfl rfl (cell_two_new _ _ _ _) (fun x hx => by simp at hx; rcases hx with rfl | rfl <;> rfl) (by unfold maxLen; omega) (by omega) (by simp; omega) ?_; intro v2 w4 hown2 hgrow2 _; have hgb5 := Lib.hid (fun u => push_blk (O := w.heap.size + 1 + 1 + 1) (u := u) hr hgb4 tne hgrow2 (by omega)); obtain ⟨A5, c5, rfl, hm2, hk2⟩ := Mid.push bO hr bR HB.out H5.out hown2 rfl hgrow2; obtain ⟨t0, t1, y0, y1⟩ := hk2.two; have HM2 := Lib.hid hm2; clear hown2 hgrow2 hm2 hk2 bO hr bR hgb4 o0 o1 f0 f1)
            go_roundg g2
            case measure => omega
            case rel => exact ⟨y + 1, by omega, by omega, by go_num, by rw [← HN.out]; exact HM2.out, hgb5.out _⟩

set_option maxHeartbeats 1000000 in
set_option maxRecDepth 100000 in
theorem specInd_any (s : Int) (v u : Value) (l : List Ed) (xs : List Int) (w : World) (h : Edges w v l) (hl : l.length ≤ 1048576) (hu : Ints w u xs) (hxl : xs.length ≤ 1048576) (hs1 : -9223372036854775808 ≤ s) (hs2 : s ≤ 9223372036854775807) :
    Calls Try.prog 54 #[.agg #[.int .i64 s, v], u] w (RetG w (SetOk s l xs) xs.length (indL l xs)) := by
  obtain ⟨A, c, rfl, -⟩ := h.form
  obtain ⟨A2, c2, rfl, -⟩ := hu.form
  have H := Lib.hid h
  have HU := Lib.hid hu
  have b0 : Below w.heap.size w ((w.alloc (.cells #[.int .i64 s, .slice A l.length c] 26)).alloc (.cells #[.int .i64 0, .slice none 0 0] 26)) :=
    ((Below.refl _ _).alloc (Nat.le_refl _) _).alloc (by simp) _
  have g0 := (Blk.new w 26 #[.int .i64 s, .slice A l.length c]).alloc (.cells #[.int .i64 0, .slice none 0 0] 26)
  have r0 := Blk.new (w.alloc (.cells #[.int .i64 s, .slice A l.length c] 26)) 26 #[.int .i64 0, .slice none 0 0]
  rw [World.size_alloc] at r0
  have HG := Lib.hid (l2Good_any s _ l _ (h.below b0) hl hs1 hs2)
  clear h hu
  by_cases hgd : P2.Good s l
  · rw [goodB_yes hgd] at HG
    have hs0 := hgd.1
    have hs8 := hgd.2.1
    have HI : Hid (okG (RisesIn xs 0 (s - 1)) = okG (SetOk s l xs)) := by show _ = _; rw [show RisesIn xs 0 (s - 1) = SetOk s l xs from propext (setOk_iff hgd)]
    clear hgd
    by_cases hg : SetOk s l xs
    · rw [okG_yes hg] at HI
      have HGD := Lib.hid hg
      have hx8 := setOk_len hg
      clear hg
      go_enter Try.func54, Try.ntmps54
      go_wp2_with fail
      refine HG.out.mono ?_
      rintro e w1 ⟨rfl, b1⟩
      have e_w1 := btrans b0 b1
      have g1 := g0.below b1 g0.lt
      have r1 := r0.below b1 r0.lt
      obtain ⟨p0, p1, -, -⟩ := g1.two
      clear HG b0 b1 g0 r0
      go_wp2_with fail
      refine (l2Set_any s (.slice A l.length c) (.slice A2 xs.length c2) l xs w1 (HU.out.below e_w1) hxl hs0 hs8).mono ?_
      rw [HI.out]
      rintro e w2 ⟨rfl, b2⟩
      have e_w2 := btrans e_w1 b2
      have g2 := g1.below b2 g1.lt
      have r2 := r1.below b2 r1.lt
      clear p0 p1 g1 r1 b2
      obtain ⟨p0, p1, -, -⟩ := g2.two
      go_wp2_with fail
      refine (l2Ind_any s (.slice A l.length c) (.slice A2 xs.length c2) l xs w2 (H.out.below e_w2) hl (HU.out.below e_w2) hx8).mono ?_
      rintro e w3 ⟨A3, c3, rfl, o3, b3⟩
      have r3 := r2.below b3 r2.lt
      have HD := Lib.hid (Mid.done (n := (xs.length : Int)) (own_base o3 e_w2.size) r3 (btrans e_w2 b3) (by omega))
      obtain ⟨q0, q1, z0, z1⟩ := r3.two
      clear o3 b3 r3 r2 g2 p0 p1
      go_wp2_with fail
      refine bodyPost_ret (v := .tuple #[.agg #[.int .i64 ((xs.length : Int)), .slice A3 (indL l xs).length c3], .bool true]) (by simp [results, Try.results54, go_sem, q0, q1]) rfl (RetG.yes HGD.out HD.out.1 HD.out.2)
    · rw [okG_no hg] at HI
      have HN := Lib.hid hg
      clear hg
      go_enter Try.func54, Try.ntmps54
      go_wp2_with fail
      refine HG.out.mono ?_
      rintro e w1 ⟨rfl, b1⟩
      have e_w1 := btrans b0 b1
      have g1 := g0.below b1 g0.lt
      have r1 := r0.below b1 r0.lt
      obtain ⟨p0, p1, -, -⟩ := g1.two
      clear HG b0 b1 g0 r0
      go_wp2_with fail
      refine (l2Set_any s (.slice A l.length c) (.slice A2 xs.length c2) l xs w1 (HU.out.below e_w1) hxl hs0 hs8).mono ?_
      rw [HI.out]
      rintro e w2 ⟨rfl, b2⟩
      have e_w2 := btrans e_w1 b2
      have r2 := r1.below b2 r1.lt
      obtain ⟨q0, q1, z0, z1⟩ := r2.two
      clear p0 p1 g1 r1 b2 r2
      go_wp2_with fail
      refine bodyPost_ret (v := .tuple #[.agg #[.int .i64 0, .slice none 0 0], .bool false]) (by simp [results, Try.results54, go_sem, q0, q1]) rfl (RetG.no HN.out (by have hz_ := (e_w2).size; have hb_ := e_w2; go_grown))
  · rw [goodB_no hgd] at HG
    have HN : Hid (¬ SetOk s l xs) := fun h => hgd h.1
    clear hgd
    go_enter Try.func54, Try.ntmps54
    go_wp2_with fail
    refine HG.out.mono ?_
    rintro e w1 ⟨rfl, b1⟩
    have e_w1 := btrans b0 b1
    have r1 := r0.below b1 r0.lt
    obtain ⟨q0, q1, z0, z1⟩ := r1.two
    clear HG b0 b1 g0 r0 r1
    go_wp2_with fail
    refine bodyPost_ret (v := .tuple #[.agg #[.int .i64 0, .slice none 0 0], .bool false]) (by simp [results, Try.results54, go_sem, q0, q1]) rfl (RetG.no HN.out (by have hz_ := (e_w1).size; have hb_ := e_w1; go_grown))
theorem indL_len (s : Int) (l : List Ed) (xs : List Int) : (edG (SetOk s l xs) (indL l xs)).length ≤ 1048576 := edG_len fun h => gw_len _ (setOk_len h)
theorem remL_len (s x : Int) (l : List Ed) : (edG (RemOk s l x) (remL l s x)).length ≤ 1048576 := edG_len fun h => gw_len _ (setOk_len (but_ok h))
end Go.Proofs.Ytbelfdkfccchbaa.inds
