/- The game as the model has it, and the contract of the model's l4After. -/
import Derived.Handy
import Derived.Test.YtpeobnmfndelhaaK14
import Derived.Test.YtpeobnmfndelhaaK17
import Derived.Test.YtpeobnmfndelhaaK21
import Derived.BigQuiet
import Derived.StillTailTactics
namespace Go.Proofs.Ytpeobnmfndelhaa.lists
open Go.RowKit P2 words edges ints good adjs fns sets rets apps gridr grid trip covs bitsI times mids balls minmax
set_option linter.unusedVariables false

def ballG (l : List Ed) (n : Nat) : List (List Int) := (List.range n).map (ballL l n)
theorem ballG_len (l : List Ed) (n : Nat) : (ballG l n).length = n := by simp [ballG]
theorem ballG_at {l : List Ed} {n x : Nat} (h : x < n) : (ballG l n)[x]? = some (ballL l n x) := by simp [ballG, h]
theorem mem_cfg {n k p r : Nat} : decide ((r : Int) ∈ castL (cfg n k p)) = decide (r ∈ cfg n k p) := by
  rw [decide_eq_decide]
  constructor
  · intro h
    obtain ⟨y, hy, e⟩ := List.mem_map.1 h
    have : y = r := by omega
    subst this; exact hy
  · exact fun h => List.mem_map.2 ⟨r, h, rfl⟩
/-- the game as the model has it -/
structure HS (w : World) (l : List Ed) (n k : Nat) (fv mv bv : Value) (uf um ub : List Value) : Prop where
  cfgs : ReadsG w fv uf (rowsN (listsN n k 0))
  moves : ReadsG w mv um (mvG l n k)
  balls : ReadsG w bv ub (ballG l n)
theorem HS.below {w w' : World} {l : List Ed} {n k : Nat} {fv mv bv : Value} {uf um ub : List Value} (h : HS w l n k fv mv bv uf um ub) (hb : Below w.heap.size w w') : HS w' l n k fv mv bv uf um ub := ⟨h.cfgs.below hb, h.moves.below hb, h.balls.below hb⟩
theorem blk3 {w : World} {g : Nat} {t : TypeId} {a b c : Value} (h : Blk w g t #[a, b, c]) : w.cell? ⟨g, 0, none⟩ = some a ∧ w.cell? ⟨g, 1, none⟩ = some b ∧ w.cell? ⟨g, 2, none⟩ = some c := ⟨h.cell 0, h.cell 1, h.cell 2⟩
set_option maxHeartbeats 4000000 in
set_option maxRecDepth 100000 in
theorem l4After_any (n k q r : Nat) (T : Nat → Nat → Int) (fv mv bv t : Value) (uf um ub us : List Value) (l : List Ed) (w : World) (h : HS w l n k fv mv bv uf um ub) (ht : ReadsG w t us (gridG (gameN l n k).P n T)) (hn : n ≤ 8) (hk : k ≤ 3) (hq : q < (gameN l n k).P) (hr : r < n) :
    Calls Try.prog 121 #[.agg #[fv, mv, bv], t, .int .i64 (q : Int), .int .i64 (r : Int)] w fun e w' => e = .returned (.int .i64 (afterG (gameN l n k) T l q r)) ∧ Below w.heap.size w w' := by
  obtain ⟨Af, cf, rfl, -⟩ := h.cfgs.1
  obtain ⟨Am, cm, rfl, -⟩ := h.moves.1
  obtain ⟨Ab, cb, rfl, -⟩ := h.balls.1
  obtain ⟨At, ct, rfl, -⟩ := ht.1
  rw [rowsN_len, mvG_len, ballG_len, gridG_len] at *
  obtain ⟨u1, g1, o1, hu1, rfl, c1, hr1⟩ := h.cfgs.row (rowsN_at (cfg_at (n := n) (k := k) (p := q) hq))
  obtain ⟨A1, k1, rfl, -⟩ := hr1.form
  obtain ⟨u2, g2, o2, hu2, rfl, c2, hr2⟩ := h.balls.row (ballG_at (l := l) hr)
  obtain ⟨A2, k2, rfl, hc2⟩ := hr2.form
  obtain ⟨u3, g3, o3, hu3, rfl, c3, hr3⟩ := ht.row (gridG_at (n := n) (T := T) hq)
  obtain ⟨A3, k3, rfl, hc3⟩ := hr3.form
  rw [rowG_len] at c3
  have hPl : (gameN l n k).P = (listsN n k 0).length := rfl
  have HPL := Lib.hid hPl
  have hcl : (castL (cfg n k q)).length ≤ 1048576 := by rw [castL_len, cfg_len hq]; omega
  have b0 : Below w.heap.size w (w.alloc (.cells #[.slice (some ⟨g1, o1, none⟩) (listsN n k 0).length cf, .slice Am (gameN l n k).P cm, .slice (some ⟨g2, o2, none⟩) n cb] 75)) := (Below.refl _ _).alloc (Nat.le_refl _) _
  have g0 := Blk.new w 75 #[.slice (some ⟨g1, o1, none⟩) (listsN n k 0).length cf, .slice Am (gameN l n k).P cm, .slice (some ⟨g2, o2, none⟩) n cb]
  obtain ⟨p0, p1, p2⟩ := blk3 g0
  have HAS := Lib.hid (l1Has_any _ (castL (cfg n k q)) (r : Int) _ (hr1.below b0) hcl)
  rw [mem_cfg] at HAS
  have HB0 := Lib.hid b0
  have HC2 := Lib.hid hc2
  have HC3 := Lib.hid hc3
  have s1 := nearv.cell_keep c1 b0
  have s2 := nearv.cell_keep c2 b0
  have s3 := nearv.cell_keep c3 b0
  have HS3 := Lib.hid c3
  have hq1 : (q : Int) < ((listsN n k 0).length : Int) := by omega
  have hq2 : (q : Int) < ((gameN l n k).P : Int) := by omega
  have hrn : (r : Int) < (n : Int) := by omega
  have hbl := nw_len (ballB l r) n
  have hbe : nw (ballB l r) n = ballL l n r := rfl
  rw [hbe] at hbl
  have HBL := Lib.hid (fun j b hb => ballL_mem (l := l) (n := n) (x := r) (k := j) (b := b) hb)
  have hrl : (rowG n (T q)).length = n := rowG_len n (T q)
  have HRL := Lib.hid hrl
  have HAG := Lib.hid (show afterG (gameN l n k) T l q r = if decide (r ∈ cfg n k q) = true then 0 else worstL (fun x => T q x.toNat) (ballL l n r) from rfl)
  clear h ht hu1 hu2 hu3 hr1 hr2 hr3 hc2 hc3 c1 c2 c3 b0 g0 hPl hrl hbe hcl
  cases htk : decide (r ∈ cfg n k q) with
  | true =>
    have HV : Hid (afterG (gameN l n k) T l q r = 0) := by show _ = _; rw [HAG.out, htk]; rfl
    rw [htk] at HAS
    clear htk
    go_enter Try.func121, Try.ntmps121
    go_wp2_with fail
    refine HAS.out.mono ?_
    rintro e w' ⟨rfl, rfl⟩
    go_wp2_with fail
    go_ret
    exact ⟨ret_int HV.out.symm, HB0.out⟩
  | false =>
    have HV : Hid (afterG (gameN l n k) T l q r = worstL (fun x => T q x.toNat) (ballL l n r)) := by show _ = _; rw [HAG.out, htk]; rfl
    rw [htk] at HAS
    clear htk
    generalize ballL l n r = bl at *
    go_enter Try.func121, Try.ntmps121
    go_wp2_with fail
    refine HAS.out.mono ?_
    rintro e w' ⟨rfl, rfl⟩
    go_wp2_with fail
    go_quiet (fail)
    go_wp2_with fail
    have HB1 := Lib.hid (below_drewN HB0.out nq)
    clear p0 p1 p2 s1 s2 s3
    go_loopg [9, 11] bl.length (fun g m i wr => ∃ j : Nat, j + g = bl.length ∧ i = .int .i64 (j : Int) ∧ m = .int .i64 (mostL (fun x => T q x.toNat) (bl.take j)) ∧ Hid (∀ i b, i < j → bl[i]? = some b → 0 ≤ T q b.toNat) ∧ Below w.heap.size w wr)
    case atStart => exact ⟨0, by omega, rfl, rfl, fun i b h => by omega, HB1.out⟩
    case round =>
      clear HB1
      obtain ⟨j, hjg, rfl, rfl, hok, hB⟩ := hrel
      cases gk with
      | zero =>
        obtain rfl : j = bl.length := by omega
        have HY : Hid (worstL (fun x => T q x.toNat) bl = mostL (fun x => T q x.toNat) (bl.take bl.length)) := by show _ = _; rw [List.take_length]; exact worst_yes hok.out
        go_wp2_with fail
        go_ret
        exact ⟨ret_int (HY.out.symm.trans HV.out.symm), hB⟩
      | succ gg =>
        have hlt : j < bl.length := by omega
        have hlt' : (j : Int) < (bl.length : Int) := by omega
        obtain ⟨b, hb⟩ : ∃ b, bl[j]? = some b := ⟨_, List.getElem?_eq_getElem hlt⟩
        obtain ⟨ga, oa, rfl, d0⟩ := HC2.out j b hb
        have m0 : wr.cell? ⟨ga, oa + j, none⟩ = some (.int .i64 b) := nearv.cell_keep d0 hB
        obtain ⟨y, rfl, hy, -⟩ := HBL.out j b hb
        have hy9 : (y : Int) < (n : Int) := by omega
        have hy0 : (0 : Int) ≤ (y : Int) := by omega
        obtain ⟨gr, orr, rfl, f0⟩ := HC3.out y _ (rowG_at hy)
        have m1 : wr.cell? ⟨gr, orr + y, none⟩ = some (.int .i64 (T q y)) := nearv.cell_keep f0 hB
        have m2 := nearv.cell_keep HS3.out hB
        have HM := Lib.hid (mostL_succ (f := fun x => T q x.toNat) hb)
        by_cases hneg : T q y < 0
        · have HY := Lib.hid (worst_no (f := fun x => T q x.toNat) hb (by simpa using hneg))
          have dn : decide (T q y < 0) = true := by simpa using hneg
          have HBQ := Lib.hid (fun nq => below_drewN hB nq)
          clear hb d0 f0 hB
          go_wp2_with fail
          go_quiet (fail)
          go_wp2_with fail
          go_ret
          exact ⟨ret_int (HY.out.symm.trans HV.out.symm), HBQ.out _⟩
        · have HK : Hid (∀ i b, i < j + 1 → bl[i]? = some b → 0 ≤ T q b.toNat) := fun i z hi hz => by
            by_cases e : i = j
            · subst e; rw [hb] at hz; cases hz; simp; omega
            · exact hok.out i z (by omega) hz
          have dn : decide (T q y < 0) = false := by simpa using hneg
          have HMX := Lib.hid (fun (W : World) => l1Most_any (mostL (fun x => T q x.toNat) (bl.take j)) (T q y) W)
          have HBQ := Lib.hid (fun nq => below_drewN hB nq)
          simp only [Int.toNat_natCast] at HM
          clear hb d0 f0 hok hB
          go_wp2_with fail
          go_quiet (fail)
          go_wp2_with fail
          have m0' : (wr.drewN nq).cell? _ = _ := m0
          have m1' : (wr.drewN nq).cell? _ = _ := m1
          have m2' : (wr.drewN nq).cell? _ = _ := m2
          have HB5 := Lib.hid (HBQ.out nq)
          clear m0 m1 m2 HBQ
          generalize wr.drewN nq = w5 at *
          have HBQ := Lib.hid (fun nq => below_drewN HB5.out nq)
          go_quiet ((go_at_call 122; exact quiet_left (HMX.out _)))
          go_wp2_with fail
          go_roundg gg
          case measure => omega
          case rel => exact ⟨j + 1, by omega, by go_num, by rw [HM.out], HK, HBQ.out _⟩
end Go.Proofs.Ytpeobnmfndelhaa.lists
