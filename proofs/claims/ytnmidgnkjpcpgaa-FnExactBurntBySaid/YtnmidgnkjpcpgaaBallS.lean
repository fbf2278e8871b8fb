/- The contracts of the model's l2Within and BallOf. -/
import Derived.Handy
import Derived.Test.YtnmidgnkjpcpgaaBallO
import Derived.Test.YtnmidgnkjpcpgaaDistS
import Derived.Test.YtnmidgnkjpcpgaaDistO
import Derived.Test.YtnmidgnkjpcpgaaGoodS
import Derived.Maps.AppendAt
namespace Go.Proofs.Ytnmidgnkjpcpgaa.ballo
open Go.RowKit P2 words edges ints owns good near adjs fns rets nearv sets grid reps dists distf disto
set_option linter.unusedVariables false

def ballT (D : List Int) (r : Int) (k : Nat) : List Int := nw (fun y => inB (fn D y) 0 r) k
theorem ballT_yes {D : List Int} {r d : Int} {k : Nat} (h : D[k]? = some d) (hi : inB d 0 r = true) : ballT D r (k + 1) = ballT D r k ++ [(k : Int)] := nw_yes (by rw [fn_at h]; exact hi)
theorem ballT_no {D : List Int} {r d : Int} {k : Nat} (h : D[k]? = some d) (hi : inB d 0 r = false) : ballT D r (k + 1) = ballT D r k := nw_no (by rw [fn_at h]; exact hi)
theorem ballT_len (D : List Int) (r : Int) (k : Nat) : (ballT D r k).length ≤ k := nw_len _ _
/-- the empty list and the row of distances lie apart -/
def CutW (w wx : World) (a b : Value) (n : Nat) (A : Option Addr) (c : Nat) (l : List Ed) (D : List Int) : Prop :=
  wx.ownsRow w.heap.size 3 1 a 0 [] ∧ (∃ A5 c5, b = .slice A5 D.length c5 ∧ wx.ownsRow w.heap.size 3 1 b D.length (cellsI D)) ∧ (∀ k, a.ownBlock = some k → b.ownBlock ≠ some k) ∧
    Blk wx w.heap.size 29 #[.int .i64 (n : Int), .slice A l.length c] ∧ Below w.heap.size w wx
theorem CutW.before {w w3 : World} {p n c c5 B : Nat} {A A5 : Option Addr} {l : List Ed} {D : List Int} (o6 : w3.ownsRow w.heap.size 3 1 (.slice (some ⟨p, 0, none⟩) 0 0) 0 []) (o5 : w3.ownsRow B 3 1 (.slice A5 D.length c5) D.length (cellsI D))
    (hp : p < B) (hB : w.heap.size ≤ B) (g3 : Blk w3 w.heap.size 29 #[.int .i64 (n : Int), .slice A l.length c]) (e3 : Below w.heap.size w w3) : CutW w w3 (.slice (some ⟨p, 0, none⟩) 0 0) (.slice A5 D.length c5) n A c l D :=
  ⟨o6, ⟨A5, c5, rfl, own_base o5 hB⟩, fun k hk hk' => by
    have h1 := (o5.lt k hk').1
    simp [Value.ownBlock] at hk
    omega, g3, e3⟩
theorem CutW.after {w w3 : World} {n c c5 B : Nat} {A A5 : Option Addr} {l : List Ed} {D : List Int} (o5 : w3.ownsRow B 3 1 (.slice A5 D.length c5) D.length (cellsI D))
    (hB : w.heap.size ≤ B) (g3 : Blk w3 w.heap.size 29 #[.int .i64 (n : Int), .slice A l.length c]) (e3 : Below w.heap.size w w3) : CutW w (w3.alloc (.cells #[] 3)) (.slice (some ⟨w3.heap.size, 0, none⟩) 0 0) (.slice A5 D.length c5) n A c l D :=
  ⟨own_base (own_new0 w3 3 1) e3.size, ⟨A5, c5, rfl, (own_base o5 hB).alloc _⟩, fun k hk hk' => by
    have h1 := (o5.lt k hk').2
    simp [Value.ownBlock] at hk
    omega, g3.alloc _, e3.alloc e3.size _⟩
theorem apart_or {u v : Value} (h : ∀ k, u.ownBlock = some k → v.ownBlock ≠ some k) : v.ownBlock = none ∨ v.ownBlock ≠ u.ownBlock := by
  cases hv : v.ownBlock with
  | none => exact .inl rfl
  | some q => exact .inr fun e => h q e.symm hv
theorem apart_grow {u u' v : Value} {H : Nat} (h : ∀ k, u.ownBlock = some k → v.ownBlock ≠ some k) (hl : u'.ownBlock = u.ownBlock ∨ u'.ownBlock = some H) (hv : ∀ k, v.ownBlock = some k → k < H) : ∀ k, u'.ownBlock = some k → v.ownBlock ≠ some k := fun k hk hk' => by
  rcases hl with e | e
  · exact h k (e.symm.trans hk) hk'
  · rw [e] at hk
    cases hk
    exact Nat.lt_irrefl _ (hv _ hk')
theorem grid_cell {w : World} {B i n c : Nat} {A : Option Addr} {us : List Value} {u : Value} (h : w.ownsRow B 25 1 (.slice A n c) n us) (hu : us[i]? = some u) :
    ∃ g, A = some ⟨g, 0, none⟩ ∧ w.cell? ⟨g, i, none⟩ = some u ∧ B ≤ g ∧ g < w.heap.size := by
  have hi := (List.getElem?_eq_some_iff.1 hu).1
  have hl := h.1
  rcases h.2 with ⟨hf, _⟩ | ⟨g, cap, cur, hf, _⟩
  · have := congrArg (fun v => match v with | .slice _ n _ => n | _ => 0) hf
    simp at this
    omega
  · obtain ⟨rfl, rfl⟩ : A = some ⟨g, 0, none⟩ ∧ c = cap := by simpa using hf
    have := h.cellAt i (by omega)
    rw [hu] at this
    exact ⟨g, rfl, this, (h.lt g rfl).1, (h.lt g rfl).2⟩
set_option maxHeartbeats 4000000 in
set_option maxRecDepth 100000 in
theorem l2Within_any (n x : Nat) (r : Int) (v : Value) (l : List Ed) (w : World) (h : Edges w v l) (hl : l.length ≤ 1048576) (hn8 : n ≤ 8) (hx : x < n) :
    Calls Try.prog 111 #[.agg #[.int .i64 (n : Int), v], .int .i64 (x : Int), .int .i64 r] w (RowI w (ballL n l x r)) := by
  obtain ⟨i0, hi, hz0, hz1, hz2⟩ := info_parts infoInt
  obtain ⟨A, c, rfl, -⟩ := h.form
  have H := Lib.hid h
  have b0 : Below w.heap.size w (w.alloc (.cells #[.int .i64 (n : Int), .slice A l.length c] 29)) := (Below.refl _ _).alloc (Nat.le_refl _) _
  have g0 := Blk.new w 29 #[.int .i64 (n : Int), .slice A l.length c]
  have HB0 := Lib.hid b0
  have HG0 := Lib.hid g0
  have hgl := distG_len n l
  have hga := distTo_at n l hx
  have HLEN := Lib.hid hgl
  have HAT : Hid ((distG n l)[x]? = some (dist n (J1 l) x)) := hga
  have HDL := Lib.hid (dist_len (J1 l) hx)
  have hxi : (x : Int) < ((distG n l).length : Int) := by omega
  have hx0 : (0 : Int) ≤ (x : Int) := by omega
  have HBL : Hid (ballT (dist n (J1 l) x) r n = ballL n l x r) := rfl
  clear h b0 g0 hgl hga
  go_enter Try.func111, Try.ntmps111
  go_wp2_with fail
  go_cut [7, 8] (fun a b wx => CutW w wx a b n A c l (dist n (J1 l) x))
  case first =>
    obtain ⟨p0, p1, -, -⟩ := HG0.out.two
    go_region_with (first
      | (go_at_call 76; have D0 : Below w.heap.size w (w.alloc (.cells #[.int .i64 (n : Int), .slice A l.length c] 29)).drew := HB0.out.drew; (with_reducible refine (l2Dist_any n (.slice A l.length c) l (w.alloc (.cells #[.int .i64 (n : Int), .slice A l.length c] 29)).drew (H.out.below D0) hl hn8).mono ?_); rintro e w3 ⟨A3, c3, us, rfl, o3, b3⟩; obtain ⟨u5, hu5, o5⟩ := o3.row HAT.out; obtain ⟨A5, c5, rfl⟩ := own_form o5; have e3 := btrans D0 b3; have g3 := HG0.out.below (btrans (Below.refl _ _).drew b3) HG0.out.lt; obtain ⟨gr, rfl, f5, lt5⟩ := grid_cell o3.1 hu5)
      | (go_at_call 76; have D0 : Below w.heap.size w ((w.alloc (.cells #[.int .i64 (n : Int), .slice A l.length c] 29)).alloc (.cells #[] 3)).drew := (HB0.out.alloc HB0.out.size (.cells #[] 3)).drew; (with_reducible refine (l2Dist_any n (.slice A l.length c) l ((w.alloc (.cells #[.int .i64 (n : Int), .slice A l.length c] 29)).alloc (.cells #[] 3)).drew (H.out.below D0) hl hn8).mono ?_); rintro e w3 ⟨A3, c3, us, rfl, o3, b3⟩; obtain ⟨u5, hu5, o5⟩ := o3.row HAT.out; obtain ⟨A5, c5, rfl⟩ := own_form o5; have e3 := btrans D0 b3; have g2 : Blk ((w.alloc (.cells #[.int .i64 (n : Int), .slice A l.length c] 29)).alloc (.cells #[] 3)).drew w.heap.size 29 #[.int .i64 (n : Int), .slice A l.length c] := HG0.out.alloc (.cells #[] 3); have g3 := g2.below b3 g2.lt; have o4 : ((w.alloc (.cells #[.int .i64 (n : Int), .slice A l.length c] 29)).alloc (.cells #[] 3)).drew.ownsRow (w.alloc (.cells #[.int .i64 (n : Int), .slice A l.length c] 29)).heap.size 3 1 (.slice (some ⟨(w.alloc (.cells #[.int .i64 (n : Int), .slice A l.length c] 29)).heap.size, 0, none⟩) 0 0) 0 [] := own_new0 (w.alloc (.cells #[.int .i64 (n : Int), .slice A l.length c] 29)) 3 1; have o6 := own_below o4 b3; obtain ⟨gr, rfl, f5, lt5⟩ := grid_cell o3.1 hu5))
    all_goals (go_wp2_with fail; go_meet)
    all_goals first
      | exact CutW.after o5 (by simp <;> omega) g3 e3
      | (have o7 := own_base (B' := w.heap.size) o6 (by simp); simp only [World.size_alloc] at o7; exact CutW.before o7 o5 (by simp) (by simp <;> omega) g3 e3)
  case rest =>
    obtain ⟨ho0, ⟨A5, c5, rfl, hr0⟩, hap0, hg0, hB0⟩ := hcut
    have HC0 := Lib.hid ho0
    have HR0 := Lib.hid hr0
    have HA0 := Lib.hid hap0
    have HGG := Lib.hid hg0
    have HBB := Lib.hid hB0
    clear ho0 hr0 hap0 hg0 hB0
    have HDB := Lib.hid (ballT_len (dist n (J1 l) x) r)
    generalize dist n (J1 l) x = D at *
    go_wp2_with fail
    go_loopg [7, 9] n (fun g ov iv wr => ∃ (k : Nat) (ow : Value), ow = ov ∧ k + g = n ∧ iv = .int .i64 (k : Int) ∧ wr.ownsRow w.heap.size 3 1 ow (ballT D r k).length (cellsI (ballT D r k)) ∧
      wr.ownsRow w.heap.size 3 1 (.slice A5 D.length c5) D.length (cellsI D) ∧ (∀ k, ow.ownBlock = some k → (Value.slice A5 D.length c5).ownBlock ≠ some k) ∧
      Blk wr w.heap.size 29 #[.int .i64 (n : Int), .slice A l.length c] ∧ Below w.heap.size w wr)
    case atStart => exact ⟨0, _, rfl, by omega, rfl, HC0.out, HR0.out, HA0.out, HGG.out, HBB.out⟩
    case round =>
      clear HC0 HR0 HA0 HGG HBB
      obtain ⟨k, ow, rfl, hkg, rfl, hrow, hrw, hap, hgb, hB⟩ := hrel
      obtain ⟨p0, p1, -, -⟩ := hgb.two
      have hsz := hB.size
      cases gk with
      | zero =>
        obtain rfl : k = n := by omega
        obtain ⟨A4, c4, rfl⟩ := own_form hrow
        have HE := Lib.hid hB
        have HO := Lib.hid hrow
        clear hrow hrw hap hgb hB
        go_wp2_with fail
        go_ret
        rw [← HBL.out]
        exact ⟨A4, c4, rfl, HO.out, HE.out⟩
      | succ g2 =>
        have hlt : k < n := by omega
        have hlt' : (k : Int) < (n : Int) := by omega
        have hkd : (k : Int) < (D.length : Int) := by have := HDL.out; omega
        obtain ⟨d, hd⟩ : ∃ d, D[k]? = some d := ⟨_, List.getElem?_eq_getElem (by have := HDL.out; omega)⟩
        obtain ⟨_, _, hf, hcc⟩ := (show Ints wr (.slice A5 D.length c5) D from Reads.of_own hrw).form
        cases hf
        obtain ⟨g5, o5, rfl, q0⟩ := hcc k d hd
        have hlen := HDB.out k
        have HGB := Lib.hid hgb
        have HB := Lib.hid hB
        have HRW := Lib.hid hrw
        have HAP := Lib.hid hap
        have HLT := Lib.hid hrw.lt
        have HBY := Lib.hid (ballT_yes (r := r) hd)
        have HBN := Lib.hid (ballT_no (r := r) hd)
        clear hcc hgb hB hrw hap hd
        by_cases hi9 : inB d 0 r = true
        · have HN := Lib.hid (HBY.out hi9)
          have HI := Lib.hid (l1In_any d 0 r wr)
          rw [hi9] at HI
          clear hi9 HBY HBN
          generalize ballT D r k = m at *
          go_wp2_with fail
          refine HI.out.mono ?_
          rintro e w' ⟨rfl, rfl⟩
          go_wp2_with (at_builtin; refine wpList_append_own_at _ rfl _ _ 25 rfl (w.heap.size) 3 i0 (.int .i64 0) 1 8 Try.underlying25 hi hz0 hz1 hz2 rfl (by decide) _ _ _ rfl (hrow.alloc _) ⟨wr.heap.size, 0, none⟩ 1 1 [.int .i64 (k : Int)] rfl rfl (cell_one_new _ _ _) (fun x hx => by simp at hx; subst hx; rfl) (by unfold maxLen; omega) (by omega) (by simp; omega) ?_; intro v2 w2 hown2 hgrow2 _ hl2)
          have HRW2 := Lib.hid ((HRW.out.alloc _).kept hgrow2 (apart_or HAP.out))
          have HAP2 := Lib.hid (apart_grow HAP.out hl2 (fun k hk => by have := (HLT.out k hk).2; simp; omega))
          obtain ⟨hown3, hB2⟩ := push1 hrow hown2 hgrow2 hsz
          rw [← HN.out] at hown3
          have HB6 := Lib.hid (HB.out.trans hB2)
          have HG6 := Lib.hid (HGB.out.alloc (.cells #[.int .i64 (k : Int)] 3))
          have HG7 := Lib.hid (HG6.out.grown hgrow2 (fun e => mids.own_ne hrow HGB.out (by decide) e.symm))
          have HO6 := Lib.hid hown3
          clear hgrow2 hown2 hown3 hB2 hl2
          go_roundg g2
          case measure => omega
          case rel => exact ⟨k + 1, _, rfl, by omega, by go_num, HO6.out, HRW2.out, HAP2.out, HG7.out, HB6.out⟩
        · have hi8 : inB d 0 r = false := by simpa using hi9
          have HN := Lib.hid (HBN.out hi8)
          have HI := Lib.hid (l1In_any d 0 r wr)
          rw [hi8] at HI
          clear hi9 hi8 HBY HBN
          go_wp2_with fail
          refine HI.out.mono ?_
          rintro e w' ⟨rfl, rfl⟩
          go_wp2_with fail
          go_roundg g2
          case measure => omega
          case rel => exact ⟨k + 1, _, rfl, by omega, by go_num, by rw [HN.out]; exact hrow, HRW.out, HAP.out, HGB.out, HB.out⟩
end Go.Proofs.Ytnmidgnkjpcpgaa.ballo
