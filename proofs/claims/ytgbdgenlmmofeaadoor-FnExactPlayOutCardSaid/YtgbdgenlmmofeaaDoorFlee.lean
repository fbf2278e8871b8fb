/- The robber's choice: the contracts of the program's flight and of the model's l3Flee. -/
import Derived.Test.YtgbdgenlmmofeaaDoorChase
import Derived.Test.YtgbdgenlmmofeaaDoorTimeS
import Derived.Test.YtgbdgenlmmofeaaDoorLeast
namespace Go.Proofs.YtgbdgenlmmofeaaDoor.times
open Go.RowKit P2 words edges ints good adjs fns sets rets covs balls minmax bitsI bags gridr mids grid reps strip least
set_option linter.unusedVariables false

/-- a step of the robber's choice: t are the times of the cops' place -/
def fleeS (t : Nat → Int) (b x : Int) : Int := if 0 ≤ t b.toNat ∧ (t x.toNat < 0 ∨ t b.toNat < t x.toNat) then x else b
def fleeL (t : Nat → Int) (b : Int) (L : List Int) : Int := L.foldl (fleeS t) b
theorem fleeS_nat (t : Nat → Int) (x y : Nat) : fleeS t (x : Int) (y : Int) = if 0 ≤ t x ∧ (t y < 0 ∨ t x < t y) then (y : Int) else (x : Int) := rfl
theorem flee_succ {t : Nat → Int} {b x : Int} {L : List Int} {k : Nat} (h : L[k]? = some x) : fleeL t b (L.take (k + 1)) = fleeS t (fleeL t b (L.take k)) x := by
  unfold fleeL; rw [List.take_add_one, h, List.foldl_append]; rfl
theorem flee_neg {t : Nat → Int} : ∀ (L : List Int) {b : Int}, t b.toNat < 0 → fleeL t b L = b
  | [], b, _ => rfl
  | x :: L, b, h => by
    show fleeL t (fleeS t b x) L = b
    rw [show fleeS t b x = b from if_neg (by omega)]
    exact flee_neg L h
theorem flee_mem {t : Nat → Int} : ∀ (L : List Int) (b : Int), fleeL t b L = b ∨ fleeL t b L ∈ L
  | [], b => .inl rfl
  | x :: L, b => by
    show fleeL t (fleeS t b x) L = b ∨ fleeL t (fleeS t b x) L ∈ x :: L
    rcases flee_mem (t := t) L (fleeS t b x) with h | h
    · rw [h]; unfold fleeS; split
      · exact .inr (by simp)
      · exact .inl rfl
    · exact .inr (List.mem_cons_of_mem _ h)
theorem flee_stop {t : Nat → Int} {b x : Int} {L : List Int} {k : Nat} (h : L[k]? = some x) (hx : t x.toNat < 0) (hb : 0 ≤ t (fleeL t b (L.take k)).toNat ∨ fleeL t b (L.take k) = x) : fleeL t b L = x := by
  have hs : fleeL t b L = fleeL t (fleeL t b (L.take (k + 1))) (L.drop (k + 1)) := by
    unfold fleeL; rw [← List.foldl_append, List.take_append_drop]
  have hf : fleeS t (fleeL t b (L.take k)) x = x := by
    unfold fleeS; split
    · rfl
    · rename_i h2
      rcases hb with h1 | h1
      · exact absurd ⟨h1, .inl hx⟩ h2
      · exact h1
  rw [hs, flee_succ h, hf]
  exact flee_neg _ hx
theorem flee_step {t : Nat → Int} {b x : Int} (hx : 0 ≤ t x.toNat) (hb : 0 ≤ t b.toNat ∨ b = x) : fleeS t b x = (if t b.toNat < t x.toNat then x else b) ∧ 0 ≤ t (fleeS t b x).toNat := by
  unfold fleeS
  rcases hb with hb | rfl
  · by_cases h : t b.toNat < t x.toNat
    · rw [if_pos h, if_pos ⟨hb, .inr h⟩]; exact ⟨rfl, hx⟩
    · rw [if_neg h, if_neg (by omega)]; exact ⟨rfl, hb⟩
  · rw [if_neg (by omega), if_neg (by omega)]; exact ⟨rfl, hx⟩
theorem hd_at {L : List Int} (h : 0 < L.length) : L[0]? = some (hd L) := by
  cases L with
  | nil => simp at h
  | cons a L => rfl
theorem ball_pos {l : List Ed} {n r : Nat} (hr : r < n) : 0 < (ballL l n r).length := by
  have : (r : Int) ∈ ballL l n r := mem_nw.2 ⟨r, hr, by simp [ballB], rfl⟩
  exact List.length_pos_of_mem this
theorem flee_node {t : Nat → Int} {l : List Ed} {n r k : Nat} (hr : r < n) : ∃ y : Nat, fleeL t (hd (ballL l n r)) ((ballL l n r).take k) = (y : Int) ∧ y < n := by
  have hm : fleeL t (hd (ballL l n r)) ((ballL l n r).take k) ∈ ballL l n r := by
    rcases flee_mem (t := t) ((ballL l n r).take k) (hd (ballL l n r)) with h | h
    · rw [h]; exact List.mem_of_getElem? (hd_at (ball_pos hr))
    · exact List.mem_of_mem_take h
  obtain ⟨y, h1, -, h3⟩ := mem_nw.1 hm
  exact ⟨y, h3, h1⟩
theorem flee_all {t : Nat → Int} {l : List Ed} {n r : Nat} (hr : r < n) : ∃ y : Nat, fleeL t (hd (ballL l n r)) (ballL l n r) = (y : Int) ∧ y < n := by
  have h := flee_node (t := t) (l := l) (k := (ballL l n r).length) hr
  rwa [List.take_length] at h
theorem ctz_clo {n : Nat} {l : List Ed} (hg : P2.Good (n : Int) l) {r : Nat} (hr : r < n) (hn : n ≤ 8) : cloB l r ≠ 0 ∧ cloB l r < 256 ∧ ((Lib.ctz 64 (cloB l r) : Nat) : Int) = hd (ballL l n r) := by
  have h0 : cloB l r ≠ 0 := fun e => by
    have := cloB_bit hg r r
    rw [e] at this
    simp at this
  have h1 := cloB_lt' hg r (by omega)
  exact ⟨h0, h1, by rw [ctz_hd h1 h0, clo_nodes hg hr hn]⟩

set_option maxHeartbeats 2000000 in
set_option maxRecDepth 100000 in
theorem l3Flee_any (n p r : Nat) (T : Nat → Nat → Int) (v t : Value) (us : List Value) (l : List Ed) (w : World) (h : Edges w v l) (hl : l.length ≤ 1048576) (ht : ReadsG w t us (tabL n T)) (hn : n ≤ 8) (hp : p < n) (hr : r < n) :
    Calls Tryd.prog 40 #[.agg #[.int .i64 (n : Int), v], t, .int .i64 (p : Int), .int .i64 (r : Int)] w fun e w' => e = .returned (.int .i64 (fleeL (T p) (hd (ballL l n r)) (ballL l n r))) ∧ Below w.heap.size w w' := by
  obtain ⟨A, c, rfl, -⟩ := h.form
  obtain ⟨At, ct, rfl, -⟩ := ht.1
  rw [tabL_len] at *
  obtain ⟨u, gt, ot, hu, rfl, c0, hru⟩ := ht.row (tabL_at (T := T) hp)
  obtain ⟨Ar, cr, rfl, hcr⟩ := hru.form
  have HCR := Lib.hid hcr
  have b0 : Below w.heap.size w (w.alloc (.cells #[.int .i64 (n : Int), .slice A l.length c] 29)) := (Below.refl _ _).alloc (Nat.le_refl _) _
  have g0 := Blk.new w 29 #[.int .i64 (n : Int), .slice A l.length c]
  have HB := Lib.hid (l2Ball_any n (r : Int) _ l _ (h.below b0) hl hn (by omega))
  have hlen := nw_len (ballB l (r : Int).toNat) n
  have HBL := Lib.hid (fun k b hb => ballL_mem (l := l) (n := n) (x := r) (k := k) (b := b) hb)
  have HFN := Lib.hid (fun k => flee_node (t := T p) (l := l) (k := k) hr)
  have hpos := ball_pos (l := l) hr
  have HHD := Lib.hid (hd_at hpos)
  rw [Int.toNat_natCast] at HB hlen
  have hlr := rowL_len n (T p)
  rw [hlr] at *
  have HV : Hid (nw (ballB l r) n = ballL l n r) := rfl
  rw [HV.out] at HB hlen
  generalize ballL l n r = bl at *
  generalize hd bl = hd0 at *
  have c0' := Lib.hid c0
  clear h ht hu hru hcr HV c0
  go_enter Tryd.func40, Tryd.ntmps40
  go_wp2_with fail
  refine HB.out.mono ?_
  rintro e w1 ⟨A1, c1, rfl, r1, b1⟩
  have e1 := btrans b0 b1
  obtain ⟨_, _, hf, hc1⟩ := Ints.form r1
  cases hf
  have HC := Lib.hid hc1
  have he1 := e1.size
  obtain ⟨ga0, oa0, rfl, z0⟩ := hc1 0 _ HHD.out
  rw [Nat.add_zero] at z0
  clear HB b0 g0 b1 r1 hc1
  go_wp2_with fail
  clear z0
  go_loopg [10, 11] bl.length (fun g m i wr => ∃ k : Nat, k + g = bl.length ∧ i = .int .i64 (k : Int) ∧ m = .int .i64 (fleeL (T p) hd0 (bl.take k)) ∧ Hid (0 ≤ T p (fleeL (T p) hd0 (bl.take k)).toNat ∨ k = 0) ∧ Below w1.heap.size w1 wr)
  case atStart => exact ⟨0, by omega, rfl, rfl, .inr rfl, Below.refl _ _⟩
  case round =>
    obtain ⟨k, hkg, rfl, rfl, hok, hB⟩ := hrel
    have hB0 := btrans e1 hB
    cases gk with
    | zero =>
      obtain rfl : k = bl.length := by omega
      have HY : Hid (bl.take bl.length = bl) := List.take_length
      go_wp2_with fail
      go_ret
      exact ⟨ret_int (by rw [HY.out]), hB0⟩
    | succ g2 =>
      have hlt : k < bl.length := by omega
      have hlt' : (k : Int) < (bl.length : Int) := by omega
      obtain ⟨b, hb⟩ : ∃ b, bl[k]? = some b := ⟨_, List.getElem?_eq_getElem hlt⟩
      obtain ⟨ga, oa, hga, d0⟩ := HC.out k b hb
      cases hga
      have m0 : wr.cell? ⟨ga0, oa0 + k, none⟩ = some (.int .i64 b) := nearv.cell_keep d0 hB
      have HOK : Hid (0 ≤ T p (fleeL (T p) hd0 (bl.take k)).toNat ∨ fleeL (T p) hd0 (bl.take k) = b) := by
        rcases hok.out with h1 | h1
        · exact .inl h1
        · subst h1
          refine .inr ?_
          have := HHD.out
          rw [hb] at this
          cases this; rfl
      have HSUC := Lib.hid (flee_succ (t := T p) (b := hd0) hb)
      obtain ⟨y, rfl, hy, -⟩ := HBL.out k b hb
      obtain ⟨x, hxe, hxn⟩ := HFN.out k
      have hy' : (y : Int) < (n : Int) := by omega
      have hy0 : (0 : Int) ≤ (y : Int) := by omega
      have hx' : (x : Int) < (n : Int) := by omega
      have hx0 : (0 : Int) ≤ (x : Int) := by omega
      have hy9 : (y : Int) < ((rowL n (T p)).length : Int) := by rw [rowL_len]; omega
      have hx9 : (x : Int) < ((rowL n (T p)).length : Int) := by rw [rowL_len]; omega
      have hp' : (p : Int) < (n : Int) := by omega
      have hp0 : (0 : Int) ≤ (p : Int) := by omega
      obtain ⟨gr, orr, rfl, f0⟩ := HCR.out y _ (rowL_at hy)
      have m1 : wr.cell? ⟨gr, orr + y, none⟩ = some (.int .i64 (T p y)) := nearv.cell_keep f0 hB0
      obtain ⟨gr', orr', hgr, f1⟩ := HCR.out x _ (rowL_at hxn)
      cases hgr
      have m3 : wr.cell? ⟨gr, orr + x, none⟩ = some (.int .i64 (T p x)) := nearv.cell_keep f1 hB0
      have m2 := nearv.cell_keep c0'.out hB0
      by_cases hneg : T p y < 0
      · have HY := Lib.hid (flee_stop (t := T p) (b := hd0) hb (by simpa using hneg) HOK.out)
        have dn : decide (T p y < 0) = true := by simpa using hneg
        have HBQ := Lib.hid (fun nq => below_drewN hB0 nq)
        rw [hxe]
        clear hb d0 f0 f1 m3 hok hxe HFN HHD hB hB0
        go_wp2_with fail
        go_quiet (fail)
        go_wp2_with fail
        go_ret
        exact ⟨ret_int HY.out.symm, HBQ.out _⟩
      · have dn : decide (T p y < 0) = false := by simpa using hneg
        obtain ⟨hs1, hs2⟩ := flee_step (t := T p) (b := fleeL (T p) hd0 (bl.take k)) (x := (y : Int)) (by simp; omega) HOK.out
        rw [← HSUC.out] at hs1 hs2
        have HK : Hid (0 ≤ T p (fleeL (T p) hd0 (bl.take (k + 1))).toNat ∨ k + 1 = 0) := .inl hs2
        have HBQ := Lib.hid (fun nq => below_drewN hB nq)
        rw [hxe] at hs1 ⊢
        simp only [Int.toNat_natCast] at hs1
        have HS1 := Lib.hid hs1
        clear hb d0 f0 f1 hok hs1 hs2 hxe HFN HHD hB hB0 HOK HSUC
        go_wp2_with fail
        go_quiet (fail)
        go_wp2_with fail
        have m0' : (wr.drewN nq).cell? _ = _ := m0
        have m1' : (wr.drewN nq).cell? _ = _ := m1
        have m2' : (wr.drewN nq).cell? _ = _ := m2
        have m3' : (wr.drewN nq).cell? _ = _ := m3
        have HB5 := Lib.hid (HBQ.out nq)
        clear m0 m1 m2 m3 HBQ
        generalize wr.drewN nq = w5 at *
        have HBQ := Lib.hid (fun nq => below_drewN HB5.out nq)
        by_cases hm : T p x < T p y
        · have dm : decide (T p x < T p y) = true := decide_eq_true hm
          have HS2 : Hid (fleeL (T p) hd0 (bl.take (k + 1)) = (y : Int)) := by show _ = _; rw [HS1.out, if_pos hm]
          clear hm hneg
          go_quiet (fail)
          go_wp2_with fail
          go_roundg g2
          case measure => omega
          case rel => exact ⟨k + 1, by omega, by go_num, by rw [HS2.out], HK, HBQ.out _⟩
        · have dm : decide (T p x < T p y) = false := decide_eq_false hm
          have HS2 : Hid (fleeL (T p) hd0 (bl.take (k + 1)) = (x : Int)) := by show _ = _; rw [HS1.out, if_neg hm]
          clear hm hneg
          go_quiet (fail)
          go_wp2_with fail
          go_roundg g2
          case measure => omega
          case rel => exact ⟨k + 1, by omega, by go_num, by rw [HS2.out], HK, HBQ.out _⟩
set_option maxHeartbeats 2000000 in
set_option maxRecDepth 100000 in
theorem flight_any (n P p r : Nat) (T : Nat → Nat → Int) (l : List Ed) (cv tv mv xv : Value) (us : List Value) (w : World) (hcl : Nums w cv (clos l n)) (hx : ReadsG w xv us (gridG P n T)) (hg : P2.Good (n : Int) l) (hn : n ≤ 8) (hP : P ≤ 200) (hp : p < P) (hr : r < n) (hE : Env w) :
    Calls Tryd.prog 41 #[.agg #[cv, tv, mv, xv], .int .i64 (p : Int), .int .i64 (r : Int)] w fun e w' => e = .returned (.int .i64 (fleeL (T p) (hd (ballL l n r)) (ballL l n r))) ∧ Below w.heap.size w w' := by
  obtain ⟨A, c, rfl, hc⟩ := hcl.form
  obtain ⟨Ax, cx, rfl, -⟩ := hx.1
  have b0 : Below w.heap.size w (w.alloc (.cells #[.slice A (clos l n).length c, tv, mv, .slice Ax (gridG P n T).length cx] 63)) := (Below.refl _ _).alloc (Nat.le_refl _) _
  obtain ⟨p0, p1, p2, p3⟩ := blk4 (Blk.new w 63 #[.slice A (clos l n).length c, tv, mv, .slice Ax (gridG P n T).length cx])
  obtain ⟨u, gx, ox, hu, rfl, c0, hru⟩ := hx.row (gridG_at (n := n) (T := T) hp)
  obtain ⟨Ar, cr, rfl, hcr⟩ := hru.form
  obtain ⟨gc, oc, rfl, d0⟩ := hc r _ (clos_at hr)
  rw [gridG_len, clos_len, rowG_len] at *
  have HCR := Lib.hid hcr
  have c0' : (w.alloc (.cells #[.slice (some ⟨gc, oc, none⟩) n c, tv, mv, .slice (some ⟨gx, ox, none⟩) P cx] 63)).cell? _ = _ := nearv.cell_keep c0 b0
  have d0' : (w.alloc (.cells #[.slice (some ⟨gc, oc, none⟩) n c, tv, mv, .slice (some ⟨gx, ox, none⟩) P cx] 63)).cell? _ = _ := nearv.cell_keep d0 b0
  have HE : Hid (∀ k, Env ((w.alloc (.cells #[.slice (some ⟨gc, oc, none⟩) n c, tv, mv, .slice (some ⟨gx, ox, none⟩) P cx] 63)).drewN k)) := fun k => hE.next (below_drewN b0 k)
  have HBQ := Lib.hid (fun nq => below_drewN b0 nq)
  obtain ⟨k0, k1, k2⟩ := ctz_clo hg hr hn
  have HL := Lib.hid (fun (W : World) (hW : Env W) => least_any (cloB l r) k1 k0 W hW)
  simp only [k2] at HL
  have HND := Lib.hid (fun (W : World) => nodes_any (cloB l r) W (by omega))
  rw [clo_nodes hg hr hn] at HND
  have hlen : (ballL l n r).length ≤ n := nw_len (ballB l r) n
  have HBL := Lib.hid (fun k b hb => ballL_mem (l := l) (n := n) (x := r) (k := k) (b := b) hb)
  have HFN := Lib.hid (fun k => flee_node (t := T p) (l := l) (k := k) hr)
  generalize ballL l n r = bl at *
  generalize hd bl = hd0 at *
  have hp' : (p : Int) < (P : Int) := by omega
  have hp0 : (0 : Int) ≤ (p : Int) := by omega
  have hr' : (r : Int) < (n : Int) := by omega
  have hr0 : (0 : Int) ≤ (r : Int) := by omega
  generalize cloB l r = cb at *
  clear hcl hx hc hu c0 hru hcr d0 b0 k0 k1 k2 hE
  go_enter Tryd.func41, Tryd.ntmps41
  go_wp2_with fail
  go_quiet ((go_at_call 50; exact quiet_left (HL.out _ (HE.out _))))
  go_wp2_with fail
  have d1 := HBQ.out nq
  clear p0 p1 p2 p3 c0' d0' HL HE HBQ
  generalize (w.alloc (.cells #[.slice (some ⟨gc, oc, none⟩) n c, tv, mv, .slice (some ⟨gx, ox, none⟩) P cx] 63)).drewN nq = w1 at *
  refine (HND.out w1).mono ?_
  rintro e w2 ⟨A2, c2, rfl, o2, b2⟩
  have e2 := btrans d1 b2
  obtain ⟨_, _, hf, hc2⟩ := (show Ints w2 _ bl from Reads.of_own o2).form
  cases hf
  have HC := Lib.hid hc2
  have he2 := e2.size
  clear d1 b2 o2 hc2
  go_wp2_with fail
  go_loopg [8, 29] bl.length (fun g m i wr => ∃ k : Nat, k + g = bl.length ∧ i = .int .i64 (k : Int) ∧ m = .int .i64 (fleeL (T p) hd0 (bl.take k)) ∧ Below w2.heap.size w2 wr)
  case atStart => exact ⟨0, by omega, rfl, rfl, Below.refl _ _⟩
  case round =>
    obtain ⟨k, hkg, rfl, rfl, hB⟩ := hrel
    have hB0 := btrans e2 hB
    cases gk with
    | zero =>
      obtain rfl : k = bl.length := by omega
      have HY : Hid (bl.take bl.length = bl) := List.take_length
      go_wp2_with fail
      go_ret
      exact ⟨ret_int (by rw [HY.out]), hB0⟩
    | succ g2 =>
      have hlt : k < bl.length := by omega
      have hlt' : (k : Int) < (bl.length : Int) := by omega
      obtain ⟨b, hb⟩ : ∃ b, bl[k]? = some b := ⟨_, List.getElem?_eq_getElem hlt⟩
      obtain ⟨ga, oa, rfl, d0⟩ := HC.out k b hb
      have m0 : wr.cell? ⟨ga, oa + k, none⟩ = some (.int .i64 b) := nearv.cell_keep d0 hB
      have hsuc := flee_succ (t := T p) (b := hd0) hb
      obtain ⟨y, rfl, hy, -⟩ := HBL.out k b hb
      obtain ⟨x, hxe, hxn⟩ := HFN.out k
      have hy' : (y : Int) < (n : Int) := by omega
      have hy0 : (0 : Int) ≤ (y : Int) := by omega
      have hx' : (x : Int) < (n : Int) := by omega
      have hx0 : (0 : Int) ≤ (x : Int) := by omega
      obtain ⟨gr, orr, rfl, f0⟩ := HCR.out y _ (rowG_at hy)
      have m1 : wr.cell? ⟨gr, orr + y, none⟩ = some (.int .i64 (T p y)) := nearv.cell_keep f0 hB0
      obtain ⟨gr', orr', hgr, f1⟩ := HCR.out x _ (rowG_at hxn)
      cases hgr
      have m3 : wr.cell? ⟨gr, orr + x, none⟩ = some (.int .i64 (T p x)) := nearv.cell_keep f1 hB0
      have HBQ := Lib.hid (fun nq => below_drewN hB nq)
      rw [hxe] at hsuc ⊢
      rw [fleeS_nat] at hsuc
      have HSUC := Lib.hid hsuc
      clear hb d0 f0 f1 hxe HFN hB hB0 hsuc
      generalize T p y = ty at *
      generalize T p x = tx at *
      by_cases ha : 0 ≤ tx
      · have da : decide (0 ≤ tx) = true := decide_eq_true ha
        by_cases hz : ty < 0
        · have dz : decide (ty < 0) = true := decide_eq_true hz
          have HS2 := Lib.hid (HSUC.out.trans (if_pos ⟨ha, .inl hz⟩))
          clear ha hz HSUC
          go_wp2_with fail
          go_quiet (fail)
          go_wp2_with fail
          go_roundg g2
          case measure => omega
          case rel => exact ⟨k + 1, by omega, by go_num, by rw [HS2.out], HBQ.out _⟩
        · have dz : decide (ty < 0) = false := decide_eq_false hz
          by_cases hm : tx < ty
          · have dm : decide (tx < ty) = true := decide_eq_true hm
            have HS2 := Lib.hid (HSUC.out.trans (if_pos ⟨ha, .inr hm⟩))
            clear ha hz hm HSUC
            go_wp2_with fail
            go_quiet (fail)
            go_wp2_with fail
            go_roundg g2
            case measure => omega
            case rel => exact ⟨k + 1, by omega, by go_num, by rw [HS2.out], HBQ.out _⟩
          · have dm : decide (tx < ty) = false := decide_eq_false hm
            have HS2 := Lib.hid (HSUC.out.trans (if_neg (by omega)))
            clear ha hz hm HSUC
            go_wp2_with fail
            go_quiet (fail)
            go_wp2_with fail
            go_roundg g2
            case measure => omega
            case rel => exact ⟨k + 1, by omega, by go_num, by rw [HS2.out], HBQ.out _⟩
      · have da : decide (0 ≤ tx) = false := decide_eq_false ha
        have HS2 := Lib.hid (HSUC.out.trans (if_neg (by omega)))
        clear ha HSUC
        go_wp2_with fail
        go_quiet (fail)
        go_wp2_with fail
        go_roundg g2
        case measure => omega
        case rel => exact ⟨k + 1, by omega, by go_num, by rw [HS2.out], HBQ.out _⟩
/-- the time behind a move of the cops to q -/
def afterG (G : Game) (T : Nat → Nat → Int) (l : List Ed) (q r : Nat) : Int := if G.tk q r = true then 0 else worstL (fun x => T q x.toNat) (ballL l G.n r)
theorem after_one (l : List Ed) (n : Nat) (T : Nat → Nat → Int) (q r : Nat) : afterG (one l n) T l q r = afterV T (ballL l n) q r := by
  unfold afterG afterV
  refine if_cong ?_
  show (q == r) = true ↔ q = r
  simp
/-- what the robber's choice leaves -/
theorem flee_val {t : Nat → Int} (ht : ∀ x, -1 ≤ t x) : ∀ (L : List Int) (b : Int), 0 ≤ t b.toNat → t (fleeL t b L).toNat = if L.any (fun x => decide (t x.toNat < 0)) = true then -1 else L.foldl (fun m x => max m (t x.toNat)) (t b.toNat)
  | [], b, hb => rfl
  | x :: L, b, hb => by
    show t (fleeL t (fleeS t b x) L).toNat = _
    by_cases hx : t x.toNat < 0
    · rw [show fleeS t b x = x from if_pos ⟨hb, .inl hx⟩, flee_neg L hx, if_pos (by simp [hx])]
      have := ht x.toNat; omega
    · have h1 := flee_step (t := t) (b := b) (x := x) (by omega) (.inl hb)
      rw [flee_val ht L _ h1.2]
      have h2 : t (fleeS t b x).toNat = max (t b.toNat) (t x.toNat) := by
        rw [h1.1]; split <;> omega
      rw [h2]
      simp [hx]
theorem flee_worst {t : Nat → Int} (ht : ∀ x, -1 ≤ t x) {L : List Int} (hL : 0 < L.length) : t (fleeL t (hd L) L).toNat = worstL (fun x => t x.toNat) L := by
  cases L with
  | nil => simp at hL
  | cons a L =>
    show t (fleeL t a (a :: L)).toNat = _
    by_cases ha : t a.toNat < 0
    · rw [flee_neg _ ha]
      have h0 := ht a.toNat
      unfold worstL
      rw [if_pos (by simp [ha])]
      omega
    · rw [flee_val ht _ _ (by omega)]
      unfold worstL mostL
      simp only [List.foldl_cons]
      rw [show max (t a.toNat) (t a.toNat) = max 0 (t a.toNat) from by omega]
theorem stable_soon (G : Game) : ∃ t, t ≤ G.P * G.n ∧ Stable G t := by
  apply Classical.byContradiction
  intro hn
  have h : ∀ t, t ≤ G.P * G.n + 1 → t ≤ cnt G t := by
    intro t
    induction t with
    | zero => intro _; omega
    | succ t ih =>
      intro ht
      have h1 := ih (by omega)
      have h2 := cnt_grow (G := G) (t := t) (fun hs => hn ⟨t, by omega, hs⟩)
      omega
  have h1 := h _ (Nat.le_refl _)
  have h2 := cnt_le G (G.P * G.n + 1)
  omega
theorem tms_le {G : Game} {p r : Nat} (hp : p < G.P) (hr : r < G.n) : tms G p r ≤ ((G.P * G.n : Nat) : Int) := by
  obtain ⟨t, h1, h2⟩ := stable_soon G
  rw [tms_eq h2 hp hr]
  have := (tm_small (G := G) t p r).2
  omega
theorem tm_first {G : Game} {j p r : Nat} (h : win G j p r = true) : ∀ i, tmTo G (j + i) p r ≤ j
  | 0 => (tm_in h).2.1
  | i + 1 => by
    show tmTo G (j + i + 1) p r ≤ j
    rw [tm_old (win_add h i)]
    exact tm_first h i
/-- there is a move with one less -/
theorem step_down {G : Game} {l : List Ed} (hb : G.ball = ballB l) {p r : Nat} (hp : p < G.P) (hr : r < G.n) (h : 1 ≤ tms G p r) : ∃ q, q < G.P ∧ G.mv p q = true ∧ afterG G (tms G) l q r = tms G p r - 1 := by
  obtain ⟨s, -, hs⟩ := stable_soon G
  have hT : ∀ p r, p < G.P → r < G.n → tms G p r = tmTo G s p r := fun p r hp hr => tms_eq hs hp hr
  rw [hT p r hp hr] at h ⊢
  obtain ⟨t, ht⟩ : ∃ t : Nat, tmTo G s p r = ((t + 1 : Nat) : Int) := ⟨(tmTo G s p r).toNat - 1, by omega⟩
  have hw := tm_iff.1 (show 0 ≤ tmTo G s p r from by omega)
  have hin := tm_in hw
  have hts : t + 1 ≤ s := by have := hin.2.1; omega
  have hw1 := hin.2.2 (t + 1) (by omega) hts
  have hw0 : win G t p r = false := by
    cases hx : win G t p r with
    | false => rfl
    | true =>
      have := tm_first hx (s - t)
      rw [show t + (s - t) = s from by omega] at this
      omega
  rcases win_succ.1 hw1 with h1 | ⟨q, hq, hm, hl⟩
  · rw [hw0] at h1; cases h1
  · refine ⟨q, hq, hm, ?_⟩
    rw [ht]
    have hnot : ∀ j : Nat, j < t → lostOf G (win G j) q r = true → False := fun j hj hlj => by
      have h1 := win_succ.2 (.inr ⟨q, hq, hm, hlj⟩)
      have h2 := win_add h1 (t - (j + 1))
      rw [show j + 1 + (t - (j + 1)) = t from by omega, hw0] at h2
      cases h2
    unfold afterG
    by_cases htk : G.tk q r = true
    · rw [if_pos htk]
      by_cases h0 : t = 0
      · subst h0; rfl
      · exact (hnot 0 (by omega) (lost_iff.2 (.inl htk))).elim
    · rw [if_neg htk]
      have hall := (lost_iff.1 hl).resolve_left htk
      have hge : 0 ≤ worstL (fun x => tms G q x.toNat) (ballL l G.n r) := worst_iff.2 fun b hbm => by
        obtain ⟨x, hx, hxb, rfl⟩ := mem_nw.1 hbm
        rw [Int.toNat_natCast, hT q x hq hx]
        have h2 := win_add (hall x hx (by rw [hb]; exact hxb)) (s - t)
        rw [show t + (s - t) = s from by omega] at h2
        exact tm_iff.2 h2
      have hle : worstL (fun x => tms G q x.toNat) (ballL l G.n r) ≤ t := (worst_le hge).2 ⟨by omega, fun b hbm => by
        obtain ⟨x, hx, hxb, rfl⟩ := mem_nw.1 hbm
        rw [Int.toNat_natCast, hT q x hq hx]
        have h2 := tm_first (hall x hx (by rw [hb]; exact hxb)) (s - t)
        rwa [show t + (s - t) = s from by omega] at h2⟩
      apply Classical.byContradiction
      intro hne
      obtain ⟨j, hj⟩ : ∃ j : Nat, worstL (fun x => tms G q x.toNat) (ballL l G.n r) = j := ⟨(worstL (fun x => tms G q x.toNat) (ballL l G.n r)).toNat, by omega⟩
      refine hnot j (by omega) (lost_iff.2 (.inr fun x hx hxb => ?_))
      have hm2 : (x : Int) ∈ ballL l G.n r := mem_nw.2 ⟨x, hx, by rw [← hb]; exact hxb, rfl⟩
      have h4 := ((worst_le hge).1 (by rw [hj]; exact Int.le_refl _ : _ ≤ (j : Int))).2 _ hm2
      have h5 := worst_iff.1 hge _ hm2
      rw [Int.toNat_natCast, hT q x hq hx] at h4 h5
      exact (tm_in (tm_iff.1 h5)).2.2 j h4 (by omega)
/-- the move that the cops look for -/
def huntB (G : Game) (T : Nat → Nat → Int) (l : List Ed) (p r : Nat) (q : Int) : Bool := decide (afterG G T l q.toNat r = T p r - 1)
def huntL (G : Game) (T : Nat → Nat → Int) (l : List Ed) (mvs : List Int) (p r : Nat) : Int := (mvs.find? (huntB G T l p r)).getD 0
theorem hunt_is {G : Game} {l : List Ed} {ml : List (List Int)} {mvs : List Int} (hb : G.ball = ballB l) (hm : MovesOf G ml) {p r : Nat} (hp : p < G.P) (hr : r < G.n) (hml : ml[p]? = some mvs) (h : 1 ≤ tms G p r) :
    ∃ (k q : Nat), mvs[k]? = some (q : Int) ∧ huntL G (tms G) l mvs p r = (q : Int) ∧ q < G.P ∧ huntB G (tms G) l p r (q : Int) = true ∧ ∀ j z, j < k → mvs[j]? = some z → huntB G (tms G) l p r z = false := by
  obtain ⟨q0, h1, h2, h3⟩ := step_down hb hp hr h
  have hmv := hm.2 p mvs hml
  have hin : (q0 : Int) ∈ mvs := (hmv.2 q0 h1).1 h2
  have hs : (mvs.find? (huntB G (tms G) l p r)).isSome = true := by
    rw [List.find?_isSome]
    exact ⟨_, hin, by unfold huntB; rw [decide_eq_true_iff, Int.toNat_natCast]; exact h3⟩
  obtain ⟨y, hy⟩ := Option.isSome_iff_exists.1 hs
  obtain ⟨hpy, k, hk, hky, hno⟩ := List.find?_eq_some_iff_getElem.1 hy
  have hkq : mvs[k]? = some y := by rw [List.getElem?_eq_getElem hk, hky]
  have hyr := hmv.1 y (List.mem_of_getElem? hkq)
  refine ⟨k, y.toNat, ?_, ?_, by omega, ?_, fun j z hj hz => ?_⟩
  · rw [hkq]; congr 1; omega
  · unfold huntL; rw [hy]; show y = _; omega
  · rw [show ((y.toNat : Nat) : Int) = y from by omega]; exact hpy
  · have := hno j hj
    obtain ⟨hjl, rfl⟩ := List.getElem?_eq_some_iff.1 hz
    simpa using this
end Go.Proofs.YtgbdgenlmmofeaaDoor.times
