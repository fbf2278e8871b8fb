/- The contracts of ComplementOf: of the program and of the model. -/
import Derived.Test.YtbelfdkfccchbabNearV
import Derived.Deep.DeepCutAuto
namespace Go.Proofs.Ytbelfdkfccchbab.compl
open Go.RowKit P2 words edges ints good near adjs fns gws rets mids nearv

def complJ (l : List Ed) (x y : Nat) : Bool := !adj l x y
def complL (s : Int) (l : List Ed) : List Ed := gw s.toNat (complJ l)
theorem complClo_fn (bn n : Nat) (s : Int) (l : List Ed) (w : World) (hg : P2.Good s l) (h1 : NearV w bn l) (hn : n ≤ 8) : Fn2 w 58 #[.pointer (some ⟨bn, 0, none⟩)] n (complJ l) where
  enter := fun _ _ => by kernel_rfl
  call := fun W hb x y hxy hy => by
    obtain ⟨c, hc, hnr⟩ := h1.below hb
    have HN := Lib.hid (near_adj x y s c l W hg hnr (in64_small (by omega) (by omega)) (in64_small (by omega) (by omega)))
    have HJ : Hid ((!adj l x y) = complJ l x y) := rfl
    show Calls Try.prog 58 #[.int .i64 (x : Int), .int .i64 (y : Int), .pointer (some ⟨bn, 0, none⟩)] W _
    rw [← HJ.out]
    clear hnr hg h1
    go_enter Try.func58, Try.ntmps58
    go_wp2_with fail
    refine HN.out.mono ?_
    rintro e w' ⟨rfl, rfl⟩
    go_wp2_with fail
    go_ret
    exact ⟨rfl, Below.refl _ _⟩

set_option maxHeartbeats 1000000 in
set_option maxRecDepth 100000 in
theorem implCompl_any (s : Int) (v : Value) (l : List Ed) (w : World) (h : Edges w v l) (hl : l.length ≤ 1048576) :
    Calls Try.prog 21 #[.agg #[.int .i64 s, v]] w (RetG w (P2.Good s l) s (complL s l)) := by
  obtain ⟨A, c, rfl, -⟩ := h.form
  have H := Lib.hid h
  have hmf : ∀ (fn : Fn) (first cap : Array Value) (w : World), (Instr.makeFunc fn first cap).run Try.prog w = .ok (.func fn first cap) w := fun _ _ _ _ => rfl
  have b0 : Below w.heap.size w ((w.alloc (.cells #[.int .i64 s, .slice A l.length c] 26)).alloc (.cells #[.int .i64 0, .slice none 0 0] 26)) :=
    ((Below.refl _ _).alloc (Nat.le_refl _) _).alloc (by simp) _
  have g0 := (Blk.new w 26 #[.int .i64 s, .slice A l.length c]).alloc (.cells #[.int .i64 0, .slice none 0 0] 26)
  have r0 := Blk.new (w.alloc (.cells #[.int .i64 s, .slice A l.length c] 26)) 26 #[.int .i64 0, .slice none 0 0]
  rw [World.size_alloc] at r0
  have HG := Lib.hid (implIsGraph_any s _ l _ (h.below b0) hl)
  clear h
  by_cases hg : P2.Good s l
  · rw [goodB_yes hg] at HG
    have h0 := hg.1
    have h8 := hg.2.1
    obtain ⟨n, hn⟩ : ∃ n : Nat, s = (n : Int) := ⟨s.toNat, by omega⟩
    subst hn
    have HGD := Lib.hid hg
    have hn8 : n ≤ 8 := by omega
    clear hg
    go_enter Try.func21, Try.ntmps21
    go_wp2_with fail
    refine HG.out.mono ?_
    rintro e w1 ⟨rfl, b1⟩
    have e1 := btrans b0 b1
    have g1 := g0.below b1 g0.lt
    have r1 := r0.below b1 r0.lt
    obtain ⟨p0, p1, -, -⟩ := g1.two
    clear HG b0 b1 g0 r0
    go_wp2_with fail
    refine (neighborTest_any (n : Int) (.slice A l.length c) l w1 (H.out.below e1) hl (good64 HGD.out)).mono ?_
    rintro e w2 ⟨c2, rfl, n2, b2⟩
    have e2 := btrans e1 b2
    have g2 := g1.below b2 g1.lt
    have r2 := r1.below b2 r1.lt
    clear g1 r1 p0 p1 b2
    obtain ⟨p0, p1, -, -⟩ := g2.two
    have F := Lib.hid (complClo_fn w2.heap.size n (n : Int) l _ HGD.out (NearV.new (t := 55) n2) hn8)
    have hs2 := g2.lt
    clear n2
    go_wp2_with fail
    refine (graphWhere_any n 58 _ _ _ hn8 F.out).mono ?_
    rintro e w3 ⟨A3, c3, rfl, o3, b3⟩
    have r3 := (r2.alloc (.cells #[.func (.func 82) #[] #[.pointer (some ⟨c2, 0, none⟩)]] 55)).below b3 (r2.alloc _).lt
    have HD := Lib.hid (Mid.done (n := (n : Int)) (own_base o3 (by rw [World.size_alloc]; omega)) r3 (btrans (e2.alloc e2.size _) b3) (by omega))
    obtain ⟨q0, q1, z0, z1⟩ := r3.two
    clear o3 b3 r3 r2 g2 p0 p1 F
    go_wp2_with fail
    refine bodyPost_ret (v := .tuple #[.agg #[.int .i64 (n : Int), .slice A3 (gw n (complJ l)).length c3], .bool true]) (by simp [results, Try.results21, go_sem, q0, q1]) rfl (RetG.yes (l := complL (n : Int) l) HGD.out HD.out.1 HD.out.2)
  · rw [goodB_no hg] at HG
    have HN := Lib.hid hg
    clear hg
    go_enter Try.func21, Try.ntmps21
    go_wp2_with fail
    refine HG.out.mono ?_
    rintro e w1 ⟨rfl, b1⟩
    have e1 := btrans b0 b1
    have r1 := r0.below b1 r0.lt
    obtain ⟨q0, q1, z0, z1⟩ := r1.two
    clear HG b0 b1 g0 r0 r1
    go_wp2_with fail
    refine bodyPost_ret (v := .tuple #[.agg #[.int .i64 0, .slice none 0 0], .bool false]) (by simp [results, Try.results21, go_sem, q0, q1]) rfl (RetG.no HN.out ?_)
    first | exact e1 | exact (e1.setCell (by simp) _).setCell (by simp) _
end Go.Proofs.Ytbelfdkfccchbab.compl
