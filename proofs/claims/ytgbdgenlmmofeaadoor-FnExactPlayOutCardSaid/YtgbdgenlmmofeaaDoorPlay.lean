/- The contracts of PlayOut: of the program and of the model. -/
import Derived.Test.YtgbdgenlmmofeaaDoorMoves
namespace Go.Proofs.YtgbdgenlmmofeaaDoor.times
open Go.RowKit P2 words edges ints good adjs fns sets rets covs balls minmax bitsI bags gridr mids grid reps strip least func
set_option linter.unusedVariables false

/-- a list of pairs and true where p holds, or nil and false -/
def RetP (w : World) (p : Prop) (l : List Ed) (e : Ending) (w' : World) : Prop :=
  ∃ A c, e = .returned (.tuple #[.slice A (edG p l).length c, .bool (okG p)]) ∧
    w'.ownsRow w.heap.size 55 2 (.slice A (edG p l).length c) (edG p l).length (cellsE (edG p l)) ∧ Below w.heap.size w w'
theorem RetP.yes {w w' : World} {p : Prop} {l : List Ed} {A : Option Addr} {c : Nat} (hp : p) (ho : w'.ownsRow w.heap.size 55 2 (.slice A l.length c) l.length (cellsE l)) (hb : Below w.heap.size w w') :
    RetP w p l (.returned (.tuple #[.slice A l.length c, .bool true])) w' := by
  refine ⟨A, c, ?_, ?_, hb⟩
  · rw [edG_yes hp, okG_yes hp]
  · rw [edG_yes hp]; exact ho
theorem RetP.no {w w' : World} {p : Prop} {l : List Ed} {A : Option Addr} {c : Nat} (hp : ¬ p) (ho : w'.ownsRow w.heap.size 55 2 (.slice A 0 c) 0 []) (hb : Below w.heap.size w w') :
    RetP w p l (.returned (.tuple #[.slice A 0 c, .bool false])) w' := by
  refine ⟨A, c, ?_, ?_, hb⟩
  · rw [edG_no hp, okG_no hp]; rfl
  · rw [edG_no hp]; exact ho
theorem RetP.nil {w w' : World} {p : Prop} {l : List Ed} (hp : ¬ p) (hb : Below w.heap.size w w') : RetP w p l (.returned (.tuple #[.slice none 0 0, .bool false])) w' :=
  RetP.no hp (World.ownsRow_nil _ _ _ _) hb

/-- the nodes behind a move of the cop, and of the robber -/
noncomputable def huntN (l : List Ed) (n c r : Nat) : Nat := (huntL (one l n) (tms (one l n)) l (ballL l n c) c r).toNat
noncomputable def fleeN (l : List Ed) (n c r : Nat) : Nat := (fleeL (tms (one l n) c) (hd (ballL l n r)) (ballL l n r)).toNat
noncomputable def stepP (l : List Ed) (n : Nat) (s : Nat × Nat) : Nat × Nat := (huntN l n s.1 s.2, if huntN l n s.1 s.2 = s.2 then s.2 else fleeN l n (huntN l n s.1 s.2) s.2)
noncomputable def playP (l : List Ed) (n c r : Nat) : Nat → Nat × Nat
  | 0 => (c, r)
  | k + 1 => stepP l n (playP l n c r k)
noncomputable def playK (l : List Ed) (n c r k : Nat) : List Ed := (List.range k).map fun j => (((playP l n c r j).1 : Int), ((playP l n c r j).2 : Int))
theorem playK_len (l : List Ed) (n c r k : Nat) : (playK l n c r k).length = k := by simp [playK]
theorem playK_succ (l : List Ed) (n c r k : Nat) : playK l n c r (k + 1) = playK l n c r k ++ [(((playP l n c r k).1 : Int), ((playP l n c r k).2 : Int))] := by simp [playK, List.range_succ]
noncomputable def playL (l : List Ed) (n c r : Nat) : List Ed := playK l n c r ((tms (one l n) c r).toNat + 1)
def PlayOk (s : Int) (l : List Ed) (x y : Int) : Prop := nodesB s l [x, y] = true ∧ 0 ≤ tms (one l s.toNat) x.toNat y.toNat
theorem one_zero {l : List Ed} {n c r : Nat} (hc : c < n) (hr : r < n) : tms (one l n) c r = 0 ↔ c = r := by
  obtain ⟨s, -, hs⟩ := stable_soon (one l n)
  rw [tms_eq hs hc hr]
  constructor
  · intro h
    have hw := (tm_in (tm_iff.1 (show 0 ≤ tmTo (one l n) s c r from by omega))).2.2 0 (by omega) (by omega)
    have hw' : (c == r) = true := hw
    simpa using hw'
  · rintro rfl
    have hw : win (one l n) 0 c c = true := by show (c == c) = true; simp
    have h1 := tm_first hw s
    have h2 := win_add hw s
    rw [Nat.zero_add] at h1 h2
    have h3 := tm_iff.2 h2
    omega
/-- a move of both -/
theorem step_is {l : List Ed} {n c r : Nat} (hc : c < n) (hr : r < n) (h1 : 1 ≤ tms (one l n) c r) :
    huntL (one l n) (tms (one l n)) l (ballL l n c) c r = (huntN l n c r : Int) ∧ huntN l n c r < n ∧
      ((huntN l n c r = r ∧ tms (one l n) c r = 1) ∨ (huntN l n c r ≠ r ∧ fleeL (tms (one l n) (huntN l n c r)) (hd (ballL l n r)) (ballL l n r) = (fleeN l n (huntN l n c r) r : Int) ∧ fleeN l n (huntN l n c r) r < n ∧ tms (one l n) (huntN l n c r) (fleeN l n (huntN l n c r) r) = tms (one l n) c r - 1)) := by
  obtain ⟨K, q, hkq, hL, hqP, hqB, -⟩ := hunt_is (G := one l n) (ml := mvK l n n) rfl (moves_one l n) hc hr (mvK_at hc) h1
  have hq : huntN l n c r = q := by unfold huntN; rw [hL]; rfl
  have haf : afterG (one l n) (tms (one l n)) l q r = tms (one l n) c r - 1 := by
    unfold huntB at hqB
    simpa using hqB
  rw [hq]
  refine ⟨hL, hqP, ?_⟩
  rw [after_one] at haf
  unfold afterV at haf
  by_cases e : q = r
  · left
    rw [if_pos e] at haf
    exact ⟨e, by omega⟩
  · right
    rw [if_neg e] at haf
    obtain ⟨y, hy1, hy2⟩ := flee_all (t := tms (one l n) q) (l := l) hr
    have hf : fleeN l n q r = y := by unfold fleeN; rw [hy1]; rfl
    have hw := flee_worst (t := tms (one l n) q) (tms_ge (one l n) q) (ball_pos (l := l) hr)
    rw [hy1, Int.toNat_natCast] at hw
    rw [hf]
    exact ⟨e, hy1, hy2, by rw [hw]; exact haf⟩
theorem play_is {l : List Ed} {n x y : Nat} (hx : x < n) (hy : y < n) (h0 : 0 ≤ tms (one l n) x y) : ∀ k : Nat, (k : Int) ≤ tms (one l n) x y →
    (playP l n x y k).1 < n ∧ (playP l n x y k).2 < n ∧ tms (one l n) (playP l n x y k).1 (playP l n x y k).2 = tms (one l n) x y - k
  | 0, _ => ⟨hx, hy, by show tms (one l n) x y = _; simp⟩
  | k + 1, hk => by
    obtain ⟨h1, h2, h3⟩ := play_is hx hy h0 k (by omega)
    obtain ⟨e1, e2, e3⟩ := step_is (l := l) h1 h2 (by omega)
    show (huntN l n _ _) < n ∧ (if huntN l n (playP l n x y k).1 (playP l n x y k).2 = (playP l n x y k).2 then (playP l n x y k).2 else fleeN l n (huntN l n (playP l n x y k).1 (playP l n x y k).2) (playP l n x y k).2) < n ∧ tms (one l n) (huntN l n (playP l n x y k).1 (playP l n x y k).2) (if huntN l n (playP l n x y k).1 (playP l n x y k).2 = (playP l n x y k).2 then (playP l n x y k).2 else fleeN l n (huntN l n (playP l n x y k).1 (playP l n x y k).2) (playP l n x y k).2) = _
    refine ⟨e2, ?_⟩
    rcases e3 with ⟨a, b⟩ | ⟨a, -, b, c⟩
    · rw [if_pos a]
      refine ⟨h2, ?_⟩
      rw [a, (one_zero h2 h2).2 rfl]
      omega
    · rw [if_neg a]
      exact ⟨b, by rw [c]; omega⟩
theorem play_len (s : Int) (l : List Ed) (x y : Int) : (edG (PlayOk s l x y) (playL l s.toNat x.toNat y.toNat)).length ≤ 1048576 := edG_len fun h => by
  obtain ⟨hg, hx, hy⟩ := pair_nodes h.1
  have h8 := hg.2.1
  have := one_le (l := l) (n := s.toNat) (x := x.toNat) (y := y.toNat) (by omega) (by omega) (by omega)
  unfold playL
  rw [playK_len]
  omega
set_option maxHeartbeats 4000000 in
set_option maxRecDepth 100000 in
theorem implPlay_any (s x y : Int) (v : Value) (l : List Ed) (w : World) (hE : Env w) (h : Edges w v l) (hl : l.length ≤ 1048576) :
    Calls Tryd.prog 21 #[.agg #[.int .i64 s, v], .int .i64 x, .int .i64 y] w (RetP w (PlayOk s l x y) (playL l s.toNat x.toNat y.toNat)) := by
  obtain ⟨A, c, rfl, -⟩ := h.form
  obtain ⟨i0, hi, hz0, hz1, hz2⟩ := info_parts infoEd
  have H := Lib.hid h
  have b0 : Below w.heap.size w ((w.alloc (.cells #[.int .i64 s, .slice A l.length c] 29)).alloc (.cells #[.int .i64 x, .int .i64 y] 3)) := ((Below.refl _ _).alloc (Nat.le_refl _) _).alloc (by simp) _
  have g0 := (Blk.new w 29 #[.int .i64 s, .slice A l.length c]).alloc (.cells #[.int .i64 x, .int .i64 y] 3)
  have i1 := Reads.of_own (own_pair (w.alloc (.cells #[.int .i64 s, .slice A l.length c] 29)) 3 x y)
  rw [World.size_alloc] at i1
  have HO := Lib.hid (hasNodes_any s (.slice A l.length c) (.slice (some ⟨w.heap.size + 1, 0, none⟩) 2 2) l [x, y] _ (h.below b0) hl i1 (by simp))
  clear h i1
  cases hnb : nodesB s l [x, y] with
  | false =>
    rw [hnb] at HO
    have HN : Hid (¬ PlayOk s l x y) := fun hh => by have := hh.1; rw [hnb] at this; cases this
    clear hnb
    go_enter Tryd.func21, Tryd.ntmps21
    go_wp2_with fail
    refine HO.out.mono ?_
    rintro e w1 ⟨rfl, b1⟩
    go_wp2_with fail
    go_ret2
    exact RetP.nil HN.out (btrans b0 b1)
  | true =>
    rw [hnb] at HO
    obtain ⟨n, rfl⟩ : ∃ n : Nat, s = (n : Int) := ⟨s.toNat, by have := (nodesB_iff.1 hnb).1.1; omega⟩
    obtain ⟨hgd, hx, hy⟩ := pair_nodes hnb
    obtain ⟨x, rfl⟩ : ∃ k : Nat, x = (k : Int) := ⟨x.toNat, by omega⟩
    obtain ⟨y, rfl⟩ : ∃ k : Nat, y = (k : Int) := ⟨y.toNat, by omega⟩
    have hn8 : n ≤ 8 := by have := hgd.2.1; omega
    have hxn : x < n := by omega
    have hyn : y < n := by omega
    have HGD := Lib.hid hgd
    have hxi : (x : Int) < (n : Int) := by omega
    have hx0 : (0 : Int) ≤ (x : Int) := by omega
    have hyi : (y : Int) < (n : Int) := by omega
    have hy0 : (0 : Int) ≤ (y : Int) := by omega
    clear hgd hx hy
    by_cases h1 : tms (one l n) x y < 0
    · have d0 : decide (tms (one l n) x y < 0) = true := decide_eq_true h1
      have HN : Hid (¬ PlayOk (n : Int) l x y) := fun hh => by
        have h2 : 0 ≤ tms (one l n) x y := hh.2
        omega
      clear hnb h1
      go_enter Tryd.func21, Tryd.ntmps21
      go_wp2_with fail
      refine HO.out.mono ?_
      rintro e w1 ⟨rfl, b1⟩
      have e1 := btrans b0 b1
      have g1 := g0.below b1 g0.lt
      clear HO b0 b1 g0
      obtain ⟨p0, p1, -, -⟩ := g1.two
      go_wp2_with fail
      refine (chaseIn_any n (.slice A l.length c) l w1 (H.out.below e1) hl HGD.out).mono ?_
      rintro e w2 ⟨cv, tv, mv, xv, us, us', rfl, hCh, ⟨Ax, cx, rfl⟩, o2, b2⟩
      have e2 := btrans e1 b2
      obtain ⟨Ac, cc, rfl, -⟩ := hCh.closed.form
      obtain ⟨At, ct, rfl, -⟩ := hCh.taken.form
      obtain ⟨Am, cm, rfl, -⟩ := hCh.lists.1
      obtain ⟨u, gx, ox, hu, hAx, c0, hru⟩ := (gridl.readsG_of_own o2).row (gridG_at (n := n) (T := tms (one l n)) hxn)
      subst hAx
      obtain ⟨Ar, cr, rfl, hcr⟩ := hru.form
      obtain ⟨gr, orr, rfl, f0⟩ := hcr y _ (rowG_at hyn)
      rw [rowG_len] at c0
      rw [gridG_len] at *
      have b3 : Below w2.heap.size w2 (w2.alloc (.cells #[.slice Ac (clos l (one l n).n).length cc, .slice At (codesL (one l n).P (one l n).n (one l n).tk).length ct, .slice Am (mvK l n n).length cm, .slice (some ⟨gx, ox, none⟩) n cx] 63)) := (Below.refl _ _).alloc (Nat.le_refl _) _
      have hb3 := Blk.new w2 63 #[.slice Ac (clos l (one l n).n).length cc, .slice At (codesL (one l n).P (one l n).n (one l n).tk).length ct, .slice Am (mvK l n n).length cm, .slice (some ⟨gx, ox, none⟩) n cx]
      have c0' := nearv.cell_keep c0 b3
      have f0' := nearv.cell_keep f0 b3
      obtain ⟨q0, q1, q2, q3⟩ := blk4 hb3
      have HE3 := Lib.hid (btrans e2 b3)
      clear hu c0 hru hcr f0 b3
      go_wp2_with fail
      go_ret2
      exact RetP.nil HN.out HE3.out
    · have d0 : decide (tms (one l n) x y < 0) = false := decide_eq_false h1
      have HOK : Hid (PlayOk (n : Int) l x y) := ⟨hnb, by show 0 ≤ tms (one l n) x y; omega⟩
      have h64 := one_le (l := l) hn8 hxn hyn
      obtain ⟨K, hKT⟩ : ∃ K : Nat, tms (one l n) x y = (K : Int) := ⟨(tms (one l n) x y).toNat, by omega⟩
      have HPL : Hid (playL l (n : Int).toNat (x : Int).toNat (y : Int).toNat = playK l n x y (K + 1)) := by
        show _ = _
        unfold playL
        rw [Int.toNat_natCast, Int.toNat_natCast, Int.toNat_natCast, hKT, Int.toNat_natCast]
      have HPI := Lib.hid (fun k (hk : k ≤ K) => play_is (l := l) hxn hyn (by omega) k (by omega))
      have HST := Lib.hid (fun c r (hc : c < n) (hr : r < n) h => step_is (l := l) hc hr h)
      have HZ := Lib.hid (fun c r (hc : c < n) (hr : r < n) => one_zero (l := l) hc hr)
      have HK := Lib.hid hKT
      have hK6 : K ≤ 1000000 := by omega
      rw [HPL.out]
      clear hnb h1 hKT h64
      go_enter Tryd.func21, Tryd.ntmps21
      go_wp2_with fail
      refine HO.out.mono ?_
      rintro e w1 ⟨rfl, b1⟩
      have e1 := btrans b0 b1
      have g1 := g0.below b1 g0.lt
      clear HO b0 b1 g0
      obtain ⟨p0, p1, -, -⟩ := g1.two
      go_wp2_with fail
      refine (chaseIn_any n (.slice A l.length c) l w1 (H.out.below e1) hl HGD.out).mono ?_
      rintro e w2 ⟨cv, tv, mv, xv, us, us', rfl, hCh, ⟨Ax, cx, rfl⟩, o2, b2⟩
      have e2 := btrans e1 b2
      obtain ⟨Ac, cc, rfl, -⟩ := hCh.closed.form
      obtain ⟨At, ct, rfl, -⟩ := hCh.taken.form
      obtain ⟨Am, cm, rfl, -⟩ := hCh.lists.1
      obtain ⟨u, gx, ox, hu, hAx, c0, hru⟩ := (gridl.readsG_of_own o2).row (gridG_at (n := n) (T := tms (one l n)) hxn)
      subst hAx
      obtain ⟨Ar, cr, rfl, hcr⟩ := hru.form
      obtain ⟨gr, orr, rfl, f0⟩ := hcr y _ (rowG_at hyn)
      rw [rowG_len] at c0
      rw [gridG_len] at *
      have b3 : Below w2.heap.size w2 (w2.alloc (.cells #[.slice Ac (clos l (one l n).n).length cc, .slice At (codesL (one l n).P (one l n).n (one l n).tk).length ct, .slice Am (mvK l n n).length cm, .slice (some ⟨gx, ox, none⟩) n cx] 63)) := (Below.refl _ _).alloc (Nat.le_refl _) _
      have hb3 := Blk.new w2 63 #[.slice Ac (clos l (one l n).n).length cc, .slice At (codesL (one l n).P (one l n).n (one l n).tk).length ct, .slice Am (mvK l n n).length cm, .slice (some ⟨gx, ox, none⟩) n cx]
      have c0' := nearv.cell_keep c0 b3
      have f0' := nearv.cell_keep f0 b3
      obtain ⟨q0, q1, q2, q3⟩ := blk4 hb3
      have HE3 := Lib.hid (btrans e2 b3)
      have HCh := Lib.hid (hCh.below b3)
      have HX := Lib.hid ((gridl.readsG_of_own o2).below b3)
      have HEV := Lib.hid (hE.next HE3.out)
      have HBL := Lib.hid hb3
      clear hu c0 hru hcr f0 b3 hb3 o2 b2 hCh
      generalize hw3 : w2.alloc (.cells #[.slice Ac (clos l (one l n).n).length cc, .slice At (codesL (one l n).P (one l n).n (one l n).tk).length ct, .slice Am (mvK l n n).length cm, .slice (some ⟨gx, ox, none⟩) n cx] 63) = w3 at *
      have hbl : Hid (World.ownsRow (w3.alloc (.cells #[.int .i64 (x : Int), .int .i64 (y : Int)] 55)) w3.heap.size 55 2 (.slice (some ⟨w3.heap.size, 0, none⟩) 1 1) (playK l n x y 1).length (cellsE (playK l n x y 1))) :=
        World.ownsRow_lit (size := 2) w3 #[.int .i64 (x : Int), .int .i64 (y : Int)] 1 (Nat.le_refl _) (by unfold maxLen; omega) rfl
      have HB30 : Hid (Below w3.heap.size w3 (w3.alloc (.cells #[.int .i64 (x : Int), .int .i64 (y : Int)] 55))) := (Below.refl _ _).alloc (Nat.le_refl _) _
      go_wp2_with fail
      clear q0 q1 q2 q3 c0' f0' hw3
      go_loopg [1, 2, 9] K (fun g av rv pv wr => ∃ (k c r : Nat), k + g = K ∧ av = .int .i64 (c : Int) ∧ rv = .int .i64 (r : Int) ∧ Hid (playP l n x y k = (c, r)) ∧ wr.ownsRow w3.heap.size 55 2 pv (playK l n x y (k + 1)).length (cellsE (playK l n x y (k + 1))) ∧ Below w3.heap.size w3 wr)
      case atStart => exact ⟨0, x, y, by omega, rfl, rfl, rfl, hbl.out, HB30.out⟩
      case round =>
        obtain ⟨k, c, r, hkg, rfl, rfl, hpk, hrow, hB⟩ := hrel
        obtain ⟨hc, hr, ht⟩ := HPI.out k (by omega)
        rw [hpk.out] at hc hr ht
        simp only at hc hr ht
        rw [HK.out] at ht
        cases gk with
        | zero =>
          obtain rfl : k = K := by omega
          have hcr : c = r := (HZ.out c r hc hr).1 (by rw [ht]; omega)
          have d1 : ((c : Int) != (r : Int)) = false := by simp [hcr]
          have d1' : (c != r) = false := by simp [hcr]
          have HR := Lib.hid hrow
          obtain ⟨A9, c9, rfl⟩ := own_form hrow
          clear hcr hrow ht hc hr
          go_wp2_with fail
          go_ret2
          exact RetP.yes HOK.out (own_base HR.out HE3.out.size) (btrans HE3.out hB)
        | succ g2 =>
          have h1 : 1 ≤ tms (one l n) c r := by rw [ht]; omega
          have hne : c ≠ r := fun e => by have := (HZ.out c r hc hr).2 e; omega
          have d1 : ((c : Int) != (r : Int)) = true := by simp; omega
          have d1' : (c != r) = true := by simp; omega
          obtain ⟨s1, s2, s3⟩ := HST.out c r hc hr h1
          have HPU := Lib.hid (pursuit_any (one l n) c r l (mvK l n n) (ballL l n c) _ _ _ _ us us' _ (HCh.out.below hB) (HX.out.below hB) hc hr (mvK_at hc) h1 (HEV.out.next hB))
          rw [s1] at HPU
          have hpk1 : playP l n x y (k + 1) = (huntN l n c r, if huntN l n c r = r then r else fleeN l n (huntN l n c r) r) := by show stepP l n _ = _; rw [hpk.out]; rfl
          have HSL := Lib.hid (playK_succ l n x y (k + 1))
          have hlen8 : (playK l n x y (k + 1)).length ≤ 2000000 := by rw [playK_len]; omega
          obtain ⟨q0, q1, q2, q3⟩ := blk4 (HBL.out.below hB HBL.out.lt)
          rcases s3 with ⟨sa, -⟩ | ⟨sa, sf, sn, -⟩
          · have HP1 : Hid (playP l n x y (k + 1) = (huntN l n c r, r)) := by show _ = _; rw [hpk1, if_pos sa]
            rw [HP1.out] at HSL
            clear hpk1 s1 h1 ht hne hpk
            generalize huntN l n c r = c' at *
            have d2 : ((c' : Int) != (r : Int)) = false := by simp [sa]
            have d2' : (c' != r) = false := by simp [sa]
            have hrowH := Lib.hid hrow
            clear sa hrow
            generalize playK l n x y (k + 1) = m at *
            go_wp2_with fail
            refine HPU.out.mono ?_
            rintro e w5 ⟨rfl, b5⟩
            have hrow5 := own_below hrowH.out b5
            have e5 := btrans hB b5
            have hsz5 := e5.size
            have HB5 := Lib.hid e5
            clear b5 e5 hB q0 q1 q2 q3
            go_wp2_with (at_builtin; refine wpList_append_own _ rfl _ _ 22 rfl w3.heap.size 55 i0 (.agg #[.int .i64 0, .int .i64 0]) 2 16 Tryd.underlying22 hi hz0 hz1 hz2 rfl (by decide) _ _ _ rfl (hrow5.alloc _) ⟨w5.heap.size, 0, none⟩ 1 1 [.int .i64 (c' : Int), .int .i64 (r : Int)] rfl rfl (cell_two_new _ _ _ _) (fun x hx => by simp at hx; rcases hx with rfl | rfl <;> rfl) (by unfold maxLen; omega) (by omega) (by simp; omega) ?_; intro v2 w7 hown2 hgrow2 _)
            obtain ⟨hown3, hB2⟩ := pushE hrow5 hown2 hgrow2 hsz5
            have HB7 := Lib.hid (HB5.out.trans hB2)
            clear hgrow2 hrow5 hown2 hB2
            go_roundg g2
            case measure => omega
            case rel => exact ⟨k + 1, c', r, by omega, rfl, rfl, HP1, by rw [HSL.out]; exact hown3, HB7.out⟩
          · have HP1 : Hid (playP l n x y (k + 1) = (huntN l n c r, fleeN l n (huntN l n c r) r)) := by show _ = _; rw [hpk1, if_neg sa]
            rw [HP1.out] at HSL
            have d2 : ((huntN l n c r : Int) != (r : Int)) = true := by simp; omega
            have d2' : (huntN l n c r != r) = true := by simp; omega
            have HFL := Lib.hid (fun (W : World) (hW : Below w3.heap.size w3 W) => flight_any n n (huntN l n c r) r (tms (one l n)) l _ (.slice At (codesL (one l n).P (one l n).n (one l n).tk).length ct) (.slice Am (mvK l n n).length cm) _ us' W (HCh.out.closed.below hW) (HX.out.below hW) HGD.out hn8 (by omega) s2 hr (HEV.out.next hW))
            simp only [sf] at HFL
            clear hpk1 s1 h1 ht hne hpk sf sa
            generalize fleeN l n (huntN l n c r) r = r' at *
            generalize huntN l n c r = c' at *
            have hrowH := Lib.hid hrow
            clear hrow
            generalize playK l n x y (k + 1) = m at *
            go_wp2_with fail
            refine HPU.out.mono ?_
            rintro e w4 ⟨rfl, b4⟩
            have hrow4 := own_below hrowH.out b4
            have e4 := btrans hB b4
            clear q0 q1 q2 q3
            obtain ⟨q0, q1, q2, q3⟩ := blk4 (HBL.out.below e4 HBL.out.lt)
            go_wp2_with fail
            refine (HFL.out w4 e4).mono ?_
            rintro e w5 ⟨rfl, b5⟩
            have hrow5 := own_below hrow4 b5
            have e5 := btrans e4 b5
            have hsz5 := e5.size
            have HB5 := Lib.hid e5
            clear b4 b5 e4 e5 hB hrow4 q0 q1 q2 q3
            go_wp2_with (at_builtin; refine wpList_append_own _ rfl _ _ 22 rfl w3.heap.size 55 i0 (.agg #[.int .i64 0, .int .i64 0]) 2 16 Tryd.underlying22 hi hz0 hz1 hz2 rfl (by decide) _ _ _ rfl (hrow5.alloc _) ⟨w5.heap.size, 0, none⟩ 1 1 [.int .i64 (c' : Int), .int .i64 (r' : Int)] rfl rfl (cell_two_new _ _ _ _) (fun x hx => by simp at hx; rcases hx with rfl | rfl <;> rfl) (by unfold maxLen; omega) (by omega) (by simp; omega) ?_; intro v2 w7 hown2 hgrow2 _)
            obtain ⟨hown3, hB2⟩ := pushE hrow5 hown2 hgrow2 hsz5
            have HB7 := Lib.hid (HB5.out.trans hB2)
            clear hgrow2 hrow5 hown2 hB2
            go_roundg g2
            case measure => omega
            case rel => exact ⟨k + 1, c', r', by omega, rfl, rfl, HP1, by rw [HSL.out]; exact hown3, HB7.out⟩
set_option maxHeartbeats 4000000 in
set_option maxRecDepth 100000 in
theorem specPlay_any (s x y : Int) (v : Value) (l : List Ed) (w : World) (h : Edges w v l) (hl : l.length ≤ 1048576) (hs1 : -9223372036854775808 ≤ s) (hs2 : s ≤ 9223372036854775807) :
    Calls Tryd.prog 20 #[.agg #[.int .i64 s, v], .int .i64 x, .int .i64 y] w (RetP w (PlayOk s l x y) (playL l s.toNat x.toNat y.toNat)) := by
  obtain ⟨A, c0', rfl, -⟩ := h.form
  obtain ⟨i0, hi, hz0, hz1, hz2⟩ := info_parts infoEd
  have H := Lib.hid h
  have b0 : Below w.heap.size w (w.alloc (.cells #[.int .i64 s, .slice A l.length c0'] 29)) := (Below.refl _ _).alloc (Nat.le_refl _) _
  have g0 := Blk.new w 29 #[.int .i64 s, .slice A l.length c0']
  have HO := Lib.hid (l3Two_any s x y _ l _ (h.below b0) hl hs1 hs2)
  clear h
  cases hnb : nodesB s l [x, y] with
  | false =>
    rw [hnb] at HO
    have HN : Hid (¬ PlayOk s l x y) := fun hh => by have := hh.1; rw [hnb] at this; cases this
    clear hnb
    go_enter Tryd.func20, Tryd.ntmps20
    go_wp2_with fail
    refine HO.out.mono ?_
    rintro e w1 ⟨rfl, b1⟩
    have e1 := btrans b0 b1
    go_wp2_with fail
    go_ret2
    exact RetP.no HN.out (own_base (own_new0 _ _ _) e1.size) (e1.alloc e1.size _)
  | true =>
    rw [hnb] at HO
    obtain ⟨n, rfl⟩ : ∃ n : Nat, s = (n : Int) := ⟨s.toNat, by have := (nodesB_iff.1 hnb).1.1; omega⟩
    obtain ⟨hgd, hx, hy⟩ := pair_nodes hnb
    obtain ⟨x, rfl⟩ : ∃ k : Nat, x = (k : Int) := ⟨x.toNat, by omega⟩
    obtain ⟨y, rfl⟩ : ∃ k : Nat, y = (k : Int) := ⟨y.toNat, by omega⟩
    have hn8 : n ≤ 8 := by have := hgd.2.1; omega
    have hxn : x < n := by omega
    have hyn : y < n := by omega
    have hxi : (x : Int) < (n : Int) := by omega
    have hx0 : (0 : Int) ≤ (x : Int) := by omega
    have hyi : (y : Int) < (n : Int) := by omega
    have hy0 : (0 : Int) ≤ (y : Int) := by omega
    clear hgd hx hy
    by_cases h1 : tms (one l n) x y < 0
    · have d0 : decide (tms (one l n) x y < 0) = true := decide_eq_true h1
      have HN : Hid (¬ PlayOk (n : Int) l x y) := fun hh => by
        have h2 : 0 ≤ tms (one l n) x y := hh.2
        omega
      clear hnb
      go_enter Tryd.func20, Tryd.ntmps20
      go_wp2_with fail
      refine HO.out.mono ?_
      rintro e w1 ⟨rfl, b1⟩
      have e1 := btrans b0 b1
      have g1 := g0.below b1 g0.lt
      clear HO b0 b1 g0
      obtain ⟨p0, p1, -, -⟩ := g1.two
      go_wp2_with fail
      refine (l3Times_any n (.slice A l.length c0') l w1 (H.out.below e1) hl hn8).mono ?_
      rintro e w2 ⟨A2, c2, us, rfl, o2, b2⟩
      have e2 := btrans e1 b2
      obtain ⟨u, gx, ox, hu, hAx, c0, hru⟩ := (gridl.readsG_of_own o2).row (tabL_at (n := n) (T := tms (one l n)) hxn)
      subst hAx
      obtain ⟨Ar, cr, rfl, hcr⟩ := hru.form
      obtain ⟨gr, orr, rfl, f0⟩ := hcr y _ (rowL_at hyn)
      rw [rowL_len] at c0
      rw [tabL_len]
      clear hu hru hcr o2 b2 h1
      go_wp2_with fail
      go_ret2
      exact RetP.no HN.out (own_base (own_new0 _ _ _) e2.size) (e2.alloc e2.size _)
    · have d0 : decide (tms (one l n) x y < 0) = false := decide_eq_false h1
      have HOK : Hid (PlayOk (n : Int) l x y) := ⟨hnb, by show 0 ≤ tms (one l n) x y; omega⟩
      have h64 := one_le (l := l) hn8 hxn hyn
      obtain ⟨K, hKT⟩ : ∃ K : Nat, tms (one l n) x y = (K : Int) := ⟨(tms (one l n) x y).toNat, by omega⟩
      have HPL : Hid (playL l (n : Int).toNat (x : Int).toNat (y : Int).toNat = playK l n x y (K + 1)) := by
        show _ = _
        unfold playL
        rw [Int.toNat_natCast, Int.toNat_natCast, Int.toNat_natCast, hKT, Int.toNat_natCast]
      have HPI := Lib.hid (fun k (hk : k ≤ K) => play_is (l := l) hxn hyn (by omega) k (by omega))
      have HST := Lib.hid (fun c r (hc : c < n) (hr : r < n) h => step_is (l := l) hc hr h)
      have HZ := Lib.hid (fun c r (hc : c < n) (hr : r < n) => one_zero (l := l) hc hr)
      have HK := Lib.hid hKT
      have hK6 : K ≤ 1000000 := by omega
      rw [HPL.out]
      clear h1 hKT h64
      clear hnb
      go_enter Tryd.func20, Tryd.ntmps20
      go_wp2_with fail
      refine HO.out.mono ?_
      rintro e w1 ⟨rfl, b1⟩
      have e1 := btrans b0 b1
      have g1 := g0.below b1 g0.lt
      clear HO b0 b1 g0
      obtain ⟨p0, p1, -, -⟩ := g1.two
      go_wp2_with fail
      refine (l3Times_any n (.slice A l.length c0') l w1 (H.out.below e1) hl hn8).mono ?_
      rintro e w2 ⟨A2, c2, us, rfl, o2, b2⟩
      have e2 := btrans e1 b2
      obtain ⟨u, gx, ox, hu, hAx, c0, hru⟩ := (gridl.readsG_of_own o2).row (tabL_at (n := n) (T := tms (one l n)) hxn)
      subst hAx
      obtain ⟨Ar, cr, rfl, hcr⟩ := hru.form
      obtain ⟨gr, orr, rfl, f0⟩ := hcr y _ (rowL_at hyn)
      rw [rowL_len] at c0
      rw [tabL_len]
      have HX := Lib.hid (gridl.readsG_of_own o2)
      have HE3 := Lib.hid e2
      have HBL := Lib.hid (g1.below b2 g1.lt)
      clear hu hru hcr o2 b2 p0 p1 g1 e1
      rw [tabL_len] at HX
      have hbl : Hid (World.ownsRow (w2.alloc (.cells #[.int .i64 (x : Int), .int .i64 (y : Int)] 55)) w2.heap.size 55 2 (.slice (some ⟨w2.heap.size, 0, none⟩) 1 1) (playK l n x y 1).length (cellsE (playK l n x y 1))) :=
        World.ownsRow_lit (size := 2) w2 #[.int .i64 (x : Int), .int .i64 (y : Int)] 1 (Nat.le_refl _) (by unfold maxLen; omega) rfl
      have HB30 : Hid (Below w2.heap.size w2 (w2.alloc (.cells #[.int .i64 (x : Int), .int .i64 (y : Int)] 55))) := (Below.refl _ _).alloc (Nat.le_refl _) _
      go_wp2_with fail
      clear c0 f0
      go_loopg [1, 2, 9] K (fun g av rv pv wr => ∃ (k c r : Nat), k + g = K ∧ av = .int .i64 (c : Int) ∧ rv = .int .i64 (r : Int) ∧ Hid (playP l n x y k = (c, r)) ∧ wr.ownsRow w2.heap.size 55 2 pv (playK l n x y (k + 1)).length (cellsE (playK l n x y (k + 1))) ∧ Below w2.heap.size w2 wr)
      case atStart => exact ⟨0, x, y, by omega, rfl, rfl, rfl, hbl.out, HB30.out⟩
      case round =>
        obtain ⟨k, c, r, hkg, rfl, rfl, hpk, hrow, hB⟩ := hrel
        obtain ⟨hc, hr, ht⟩ := HPI.out k (by omega)
        rw [hpk.out] at hc hr ht
        simp only at hc hr ht
        rw [HK.out] at ht
        cases gk with
        | zero =>
          obtain rfl : k = K := by omega
          have hcr : c = r := (HZ.out c r hc hr).1 (by rw [ht]; omega)
          have d1 : ((c : Int) != (r : Int)) = false := by simp [hcr]
          have d1' : (c != r) = false := by simp [hcr]
          have HR := Lib.hid hrow
          obtain ⟨A9, c9, rfl⟩ := own_form hrow
          clear hcr hrow ht hc hr
          go_wp2_with fail
          go_ret2
          exact RetP.yes HOK.out (own_base HR.out HE3.out.size) (btrans HE3.out hB)
        | succ g2 =>
          have h1 : 1 ≤ tms (one l n) c r := by rw [ht]; omega
          have hne : c ≠ r := fun e => by have := (HZ.out c r hc hr).2 e; omega
          have d1 : ((c : Int) != (r : Int)) = true := by simp; omega
          have d1' : (c != r) = true := by simp; omega
          obtain ⟨s1, s2, s3⟩ := HST.out c r hc hr h1
          have HPU := Lib.hid (fun (W : World) (hW : Below w2.heap.size w2 W) => l3Chase_any n c r (.slice A l.length c0') _ us l W (H.out.below (btrans HE3.out hW)) hl (HX.out.below hW) hn8 hc hr h1)
          simp only [s1] at HPU
          have hpk1 : playP l n x y (k + 1) = (huntN l n c r, if huntN l n c r = r then r else fleeN l n (huntN l n c r) r) := by show stepP l n _ = _; rw [hpk.out]; rfl
          have HSL := Lib.hid (playK_succ l n x y (k + 1))
          have hlen8 : (playK l n x y (k + 1)).length ≤ 2000000 := by rw [playK_len]; omega
          obtain ⟨q0, q1, -, -⟩ := (HBL.out.below hB HBL.out.lt).two
          rcases s3 with ⟨sa, -⟩ | ⟨sa, sf, sn, -⟩
          · have HP1 : Hid (playP l n x y (k + 1) = (huntN l n c r, r)) := by show _ = _; rw [hpk1, if_pos sa]
            rw [HP1.out] at HSL
            clear hpk1 s1 h1 ht hne hpk
            generalize huntN l n c r = c' at *
            have d2 : ((c' : Int) != (r : Int)) = false := by simp [sa]
            have d2' : (c' != r) = false := by simp [sa]
            have hrowH := Lib.hid hrow
            clear sa hrow
            generalize playK l n x y (k + 1) = m at *
            go_wp2_with fail
            refine (HPU.out wr hB).mono ?_
            rintro e w5 ⟨rfl, b5⟩
            have hrow5 := own_below hrowH.out b5
            have e5 := btrans hB b5
            have hsz5 := e5.size
            have HB5 := Lib.hid e5
            clear b5 e5 hB q0 q1
            go_wp2_with (at_builtin; refine wpList_append_own _ rfl _ _ 22 rfl w2.heap.size 55 i0 (.agg #[.int .i64 0, .int .i64 0]) 2 16 Tryd.underlying22 hi hz0 hz1 hz2 rfl (by decide) _ _ _ rfl (hrow5.alloc _) ⟨w5.heap.size, 0, none⟩ 1 1 [.int .i64 (c' : Int), .int .i64 (r : Int)] rfl rfl (cell_two_new _ _ _ _) (fun x hx => by simp at hx; rcases hx with rfl | rfl <;> rfl) (by unfold maxLen; omega) (by omega) (by simp; omega) ?_; intro v2 w7 hown2 hgrow2 _)
            obtain ⟨hown3, hB2⟩ := pushE hrow5 hown2 hgrow2 hsz5
            have HB7 := Lib.hid (HB5.out.trans hB2)
            clear hgrow2 hrow5 hown2 hB2
            go_roundg g2
            case measure => omega
            case rel => exact ⟨k + 1, c', r, by omega, rfl, rfl, HP1, by rw [HSL.out]; exact hown3, HB7.out⟩
          · have HP1 : Hid (playP l n x y (k + 1) = (huntN l n c r, fleeN l n (huntN l n c r) r)) := by show _ = _; rw [hpk1, if_neg sa]
            rw [HP1.out] at HSL
            have d2 : ((huntN l n c r : Int) != (r : Int)) = true := by simp; omega
            have d2' : (huntN l n c r != r) = true := by simp; omega
            have HFL := Lib.hid (fun (W : World) (hW : Below w2.heap.size w2 W) => l3Flee_any n (huntN l n c r) r (tms (one l n)) (.slice A l.length c0') _ us l W (H.out.below (btrans HE3.out hW)) hl (HX.out.below hW) hn8 s2 hr)
            simp only [sf] at HFL
            clear hpk1 s1 h1 ht hne hpk sf sa
            generalize fleeN l n (huntN l n c r) r = r' at *
            generalize huntN l n c r = c' at *
            have hrowH := Lib.hid hrow
            clear hrow
            generalize playK l n x y (k + 1) = m at *
            go_wp2_with fail
            refine (HPU.out wr hB).mono ?_
            rintro e w4 ⟨rfl, b4⟩
            have hrow4 := own_below hrowH.out b4
            have e4 := btrans hB b4
            clear q0 q1
            obtain ⟨q0, q1, -, -⟩ := (HBL.out.below e4 HBL.out.lt).two
            go_wp2_with fail
            refine (HFL.out w4 e4).mono ?_
            rintro e w5 ⟨rfl, b5⟩
            have hrow5 := own_below hrow4 b5
            have e5 := btrans e4 b5
            have hsz5 := e5.size
            have HB5 := Lib.hid e5
            clear b4 b5 e4 e5 hB hrow4 q0 q1
            go_wp2_with (at_builtin; refine wpList_append_own _ rfl _ _ 22 rfl w2.heap.size 55 i0 (.agg #[.int .i64 0, .int .i64 0]) 2 16 Tryd.underlying22 hi hz0 hz1 hz2 rfl (by decide) _ _ _ rfl (hrow5.alloc _) ⟨w5.heap.size, 0, none⟩ 1 1 [.int .i64 (c' : Int), .int .i64 (r' : Int)] rfl rfl (cell_two_new _ _ _ _) (fun x hx => by simp at hx; rcases hx with rfl | rfl <;> rfl) (by unfold maxLen; omega) (by omega) (by simp; omega) ?_; intro v2 w7 hown2 hgrow2 _)
            obtain ⟨hown3, hB2⟩ := pushE hrow5 hown2 hgrow2 hsz5
            have HB7 := Lib.hid (HB5.out.trans hB2)
            clear hgrow2 hrow5 hown2 hB2
            go_roundg g2
            case measure => omega
            case rel => exact ⟨k + 1, c', r', by omega, rfl, rfl, HP1, by rw [HSL.out]; exact hown3, HB7.out⟩
end Go.Proofs.YtgbdgenlmmofeaaDoor.times
