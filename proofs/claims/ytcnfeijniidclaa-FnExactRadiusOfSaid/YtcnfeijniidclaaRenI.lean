/- The contracts of the program's RenameNodes and PutBeside. -/
import Derived.Handy
import Derived.Test.YtcnfeijniidclaaRenM
import Derived.Test.YtcnfeijniidclaaNearV
import Derived.Deep.DeepCutAuto
import Derived.Deep.RegionHeld3
namespace Go.Proofs.Ytcnfeijniidclaa.rens
open Go.RowKit P2 words edges ints good near adjs fns gws sets rets mids nearv each func put
set_option linter.unusedVariables false

set_option maxHeartbeats 1000000 in
theorem index_any (u : Value) (xs : List Int) (x : Int) (w : World) (hu : Ints w u xs) (hxl : xs.length ≤ 1048576) :
    Calls Try.prog 73 #[u, .int .i64 x] w fun e w' => e = .returned (.int .i64 (idxI xs x)) ∧ w = w' := by
  obtain ⟨A2, c2, rfl, hc⟩ := hu.form
  have HC := Lib.hid hc
  clear hu hc
  go_enter Try.func73, Try.ntmps73
  go_wp2_with fail
  go_loop [8] (fun i => ∃ k : Nat, k ≤ xs.length ∧ i = .int .i64 (k : Int) ∧ Hid (∀ j y, j < k → xs[j]? = some y → (y == x) = false)) (fun i => xs.length - (intOf i).toNat)
  case atStart => exact ⟨0, by omega, rfl, fun j e h => by omega⟩
  case round =>
    obtain ⟨k, hk, rfl, hno⟩ := hrel
    by_cases hlt : k < xs.length
    · have hlt' : (k : Int) < (xs.length : Int) := by omega
      obtain ⟨y, hy⟩ : ∃ y, xs[k]? = some y := ⟨_, List.getElem?_eq_getElem hlt⟩
      obtain ⟨g, o, rfl, c0⟩ := HC.out k y hy
      cases hp : (y == x) with
      | true =>
        have HN := Lib.hid (idxF_at (p := fun y => y == x) hno.out hy hp)
        have hp2 : (x == y) = true := by rw [BEq.comm]; exact hp
        clear hy hp
        go_wp2_with fail
        go_ret
        exact ⟨ret_int HN.out.symm, rfl⟩
      | false =>
        have HK := Lib.hid (func.no_succ (p := fun y => y == x) hno.out hy hp)
        have hp2 : (x == y) = false := by rw [BEq.comm]; exact hp
        clear hy hp
        go_wp2_with fail
        go_round
        case rel => exact ⟨k + 1, by omega, by go_num, HK⟩
        case measure => simp [intOf]; omega
    · obtain rfl : k = xs.length := by omega
      have HN := Lib.hid (idxF_none hno.out)
      go_wp2_with fail
      go_ret
      exact ⟨ret_int HN.out.symm, rfl⟩
theorem idx_in64 {n : Nat} {tl : List Int} (h : EachS n tl) (hn : n ≤ 8) (x : Nat) (hx : x < n) : In64 (idxI tl (x : Int)) := by
  have := idx_at h (x := x) (by omega) (by omega)
  unfold In64; omega

theorem renClo_fn (bn bs n : Nat) (s : Int) (l : List Ed) (A : Option Addr) (c : Nat) (tl : List Int) (w : World) (hg : P2.Good s l) (h1 : NearV w bn l)
    (h2 : w.cell? ⟨bs, 0, none⟩ = some (.slice A tl.length c)) (h3 : Ints w (.slice A tl.length c) tl) (he : EachS n tl) (hn : n ≤ 8) :
    Fn2 w 72 #[.pointer (some ⟨bn, 0, none⟩), .pointer (some ⟨bs, 0, none⟩)] n (renJ l tl) where
  enter := fun _ _ => by kernel_rfl
  call := fun W hb i k hik hk => by
    obtain ⟨c1, hc, hnr⟩ := h1.below hb
    have q0 := nearv.cell_keep h2 hb
    have h4 : Ints W (.slice A tl.length c) tl := h3.below hb
    have hl8 : tl.length ≤ 1048576 := by have := he.1; omega
    have HI := Lib.hid (fun (x : Int) (nq : Nat) => index_any (.slice A tl.length c) tl x (W.drewN nq) (h4.below (below_drewN (Below.refl _ _) nq)) hl8)
    have HN := Lib.hid (fun (nq : Nat) => near_adj (idxI tl i) (idxI tl k) s c1 l (W.drewN nq) hg hnr (idx_in64 he hn i (by omega)) (idx_in64 he hn k hk))
    show Calls Try.prog 72 #[.int .i64 (i : Int), .int .i64 (k : Int), .pointer (some ⟨bn, 0, none⟩), .pointer (some ⟨bs, 0, none⟩)] W _
    have HJ : Hid (adj l (idxI tl i) (idxI tl k) = renJ l tl i k) := rfl
    rw [← HJ.out]
    clear hnr hg h1 h2 h3 h4 he HJ
    go_enter Try.func72, Try.ntmps72
    go_wp2_with fail
    go_quiet (first | (go_at_call 73; exact quiet_left (HI.out _ _)) | (go_at_call 91; exact quiet_left (HN.out _)))
    go_wp2_with fail
    go_ret
    exact ⟨rfl, below_drewN (Below.refl _ _) _⟩
set_option maxHeartbeats 1000000 in
set_option maxRecDepth 100000 in
theorem implRen_any (s : Int) (v u : Value) (l : List Ed) (tl : List Int) (w : World) (h : Edges w v l) (hl : l.length ≤ 1048576) (hu : Ints w u tl) (htl : tl.length ≤ 1048576) :
    Calls Try.prog 36 #[.agg #[.int .i64 s, v], u] w (RetG w (RenOk s l tl) s (renL s.toNat l tl)) := by
  obtain ⟨A, c, rfl, -⟩ := h.form
  obtain ⟨A2, c2, rfl, -⟩ := hu.form
  have H := Lib.hid h
  have HU := Lib.hid hu
  have hmf : ∀ (fn : Fn) (first cap : Array Value) (w : World), (Instr.makeFunc fn first cap).run Try.prog w = .ok (.func fn first cap) w := fun _ _ _ _ => rfl
  have b0 : Below w.heap.size w (((w.alloc (.cells #[.int .i64 s, .slice A l.length c] 29)).alloc (.cells #[.slice A2 tl.length c2] 26)).alloc (.cells #[.int .i64 0, .slice none 0 0] 29)) :=
    (((Below.refl _ _).alloc (Nat.le_refl _) _).alloc (by simp) _).alloc (by simp; omega) _
  have g0 := ((Blk.new w 29 #[.int .i64 s, .slice A l.length c]).alloc (.cells #[.slice A2 tl.length c2] 26)).alloc (.cells #[.int .i64 0, .slice none 0 0] 29)
  have x0 := (Blk.new (w.alloc (.cells #[.int .i64 s, .slice A l.length c] 29)) 26 #[.slice A2 tl.length c2]).alloc (.cells #[.int .i64 0, .slice none 0 0] 29)
  have r0 := Blk.new ((w.alloc (.cells #[.int .i64 s, .slice A l.length c] 29)).alloc (.cells #[.slice A2 tl.length c2] 26)) 29 #[.int .i64 0, .slice none 0 0]
  simp only [World.size_alloc] at x0 r0
  have HG := Lib.hid (hasOrder_any s _ _ l tl _ (h.below b0) hl (hu.below b0) htl)
  clear h hu
  by_cases hg : RenOk s l tl
  · rw [show okG (P2.Good s l ∧ EachS s.toNat tl) = true from okG_yes hg] at HG
    have hs0 := hg.1.1
    have hs8 := hg.1.2.1
    obtain ⟨n, hn⟩ : ∃ n : Nat, s = (n : Int) := ⟨s.toNat, by omega⟩
    subst hn
    have hn8 : n ≤ 8 := by omega
    have HGD := Lib.hid hg
    rw [Int.toNat_natCast]
    clear hg
    go_enter Try.func36, Try.ntmps36
    obtain ⟨p0, p1, -, -⟩ := g0.two
    obtain ⟨m0, -⟩ := x0.one
    go_wp2_with fail
    refine HG.out.mono ?_
    rintro e w1 ⟨rfl, b1⟩
    have e1 := btrans b0 b1
    have g1 := g0.below b1 g0.lt
    have x1 := x0.below b1 x0.lt
    have r1 := r0.below b1 r0.lt
    clear HG b0 b1 g0 x0 r0 p0 p1 m0
    obtain ⟨p0, p1, -, -⟩ := g1.two
    obtain ⟨m0, -⟩ := x1.one
    go_wp2_with fail
    refine (neighborTest_any (n : Int) (.slice A l.length c) l w1 (H.out.below e1) hl (good64 HGD.out.1)).mono ?_
    rintro e w2 ⟨c3, rfl, n2, b2⟩
    have e2 := btrans e1 b2
    have g2 := g1.below b2 g1.lt
    have x2 := x1.below b2 x1.lt
    have r2 := r1.below b2 r1.lt
    clear g1 x1 r1 p0 p1 m0 b2
    have V := NearV.new (t := 63) n2
    have b3 : Below w2.heap.size w2 (w2.alloc (.cells #[.func (.func 91) #[] #[.pointer (some ⟨c3, 0, none⟩)]] 63)) := (Below.refl _ _).alloc (Nat.le_refl _) _
    have e3 := btrans e2 b3
    have g3 := g2.below b3 g2.lt
    have x3 := x2.below b3 x2.lt
    have r3 := r2.below b3 r2.lt
    have hs2 := g2.lt
    have hs2' := e2.size
    clear n2 g2 x2 r2 e2 b3
    have F := Lib.hid (renClo_fn w2.heap.size (w.heap.size + 1) n (n : Int) l A2 c2 tl _ HGD.out.1 V (x3.cell 0) (HU.out.below e3) (by have := HGD.out.2; rwa [Int.toNat_natCast] at this) hn8)
    obtain ⟨p0, p1, -, -⟩ := g3.two
    have X3 := Lib.hid x3
    clear V x3
    go_wp2_with fail
    refine (graphWhere_any n 72 _ _ _ hn8 F.out).mono ?_
    rintro e w4 ⟨A4, c4, rfl, o4, b4⟩
    have e4 := btrans e3 b4
    have r4 := r3.below b4 r3.lt
    obtain ⟨q0, q1, z0, z1⟩ := r4.two
    have HD := Lib.hid (Mid.done (n := (n : Int)) (own_base o4 e3.size) r4 e4 (by omega))
    clear o4 b4 r4 r3 g3 p0 p1
    go_wp2_with fail
    refine bodyPost_ret (v := .tuple #[.agg #[.int .i64 ((n : Int)), .slice A4 (gw n (renJ l tl)).length c4], .bool true]) (by simp [results, Try.results36, go_sem, q0, q1]) rfl (RetG.yes (l := renL n l tl) HGD.out HD.out.1 HD.out.2)
  · rw [show okG (P2.Good s l ∧ EachS s.toNat tl) = false from okG_no hg] at HG
    have HN := Lib.hid hg
    clear hg
    go_enter Try.func36, Try.ntmps36
    obtain ⟨p0, p1, -, -⟩ := g0.two
    obtain ⟨m0, -⟩ := x0.one
    go_wp2_with fail
    refine HG.out.mono ?_
    rintro e w1 ⟨rfl, b1⟩
    have e_w1 := btrans b0 b1
    have r1 := r0.below b1 r0.lt
    obtain ⟨q0, q1, z0, z1⟩ := r1.two
    clear HG b0 b1 g0 r0 r1
    go_wp2_with fail
    refine bodyPost_ret (v := .tuple #[.agg #[.int .i64 0, .slice none 0 0], .bool false]) (by simp [results, Try.results36, go_sem, q0, q1]) rfl (RetG.no HN.out (by have hz_ := (e_w1).size; have hb_ := e_w1; go_grown))
end Go.Proofs.Ytcnfeijniidclaa.rens
