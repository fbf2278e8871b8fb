/- The contract of the model's l4Times. -/
import Derived.Handy
import Derived.Test.YtpeobnmfndelhaaK22
import Derived.Test.YtpeobnmfndelhaaK17
namespace Go.Proofs.Ytpeobnmfndelhaa.lists
open Go.RowKit P2 words edges ints good adjs fns sets rets apps gridr grid trip covs bitsI times mids balls
set_option linter.unusedVariables false

theorem tabT_grid (P n : Nat) (T : Nat → Nat → Int) : tabT n T P = gridG P n T := rfl
theorem tabT_at {n P p : Nat} {T : Nat → Nat → Int} (h : p < P) : (tabT n T P)[p]? = some (rowL n (T p)) := by simp [tabT, h]
theorem gridT_congr {P n : Nat} {T U : Nat → Nat → Int} (h : ∀ p r, p < P → r < n → T p r = U p r) : tabT n T P = tabT n U P := gridG_congr h
theorem row_at9 {w : World} {B P n p : Nat} {A : Option Addr} {c m : Nat} {us : List Value} {T : Nat → Nat → Int} (h : OwnG w B (.slice A m c) us (tabT n T P)) (hm : m = P) (hp : p < P) :
    ∃ g A5 c5, A = some ⟨g, 0, none⟩ ∧ w.cell? ⟨g, p, none⟩ = some (.slice A5 n c5) ∧ Ints w (.slice A5 (rowL n (T p)).length c5) (rowL n (T p)) := by
  subst hm
  obtain ⟨u5, hu5, o5⟩ := h.row (tabT_at (T := T) hp)
  obtain ⟨A5, c5, rfl⟩ := own_form o5
  have h1 := h.1
  rw [tabT_len] at h1
  obtain ⟨g, rfl, f5, _⟩ := own_at h1 hu5
  rw [rowL_len] at f5
  exact ⟨g, A5, c5, rfl, f5, Reads.of_own o5⟩
set_option maxHeartbeats 20000000 in
set_option maxRecDepth 100000 in
theorem l4Times_any (n k : Nat) (fv mv bv : Value) (uf um ub : List Value) (l : List Ed) (w : World) (h : HS w l n k fv mv bv uf um ub) (hn : n ≤ 8) (hk : k ≤ 3) :
    Calls Try.prog 63 #[.agg #[fv, mv, bv]] w fun e w' => ∃ A c us, e = .returned (.slice A (gameN l n k).P c) ∧ OwnG w' w.heap.size (.slice A (gameN l n k).P c) us (gridG (gameN l n k).P n (tms (gameN l n k))) ∧ Below w.heap.size w w' := by
  obtain ⟨i0, hi, hz0, hz1, hz2⟩ := info_parts infoInt
  obtain ⟨i1, hi1, hy0, hy1, hy2⟩ := info_parts infoRow
  have H := Lib.hid h
  have hP : (gameN l n k).P ≤ 200 := game_small hn hk
  have hPl : (gameN l n k).P = (listsN n k 0).length := rfl
  have HPL := Lib.hid hPl
  have HBE : Hid ((gameN l n k).ball = ballB l) := rfl
  have HNE : Hid ((gameN l n k).n = n) := rfl
  obtain ⟨Af, cf, rfl, -⟩ := h.cfgs.1
  obtain ⟨Am, cm, rfl, -⟩ := h.moves.1
  obtain ⟨Ab, cb, rfl, -⟩ := h.balls.1
  rw [rowsN_len, mvG_len, ballG_len, ← hPl] at *
  have HTK : Hid (∀ p x : Nat, tmTo (gameN l n k) 0 p x = if decide (x ∈ cfg n k p) = true then 0 else -1) := fun p x => rfl
  have HAF := Lib.hid (fun (T : Nat → Nat → Int) (q r : Nat) (t : Value) (us : List Value) (W : World) (hb : Below w.heap.size w W) (ht : ReadsG W t us (gridG (gameN l n k).P n T)) (hq : q < (gameN l n k).P) (hr : r < n) => l4After_any n k q r T _ _ _ t uf um ub us l W (h.below hb) ht hn hk hq hr)
  have HCF : Hid (∀ (p : Nat) (W : World), p < (gameN l n k).P → Below w.heap.size w W → ∃ g o A1 k1, Af = some ⟨g, o, none⟩ ∧ W.cell? ⟨g, o + p, none⟩ = some (.slice A1 (castL (cfg n k p)).length k1) ∧ Ints W (.slice A1 (castL (cfg n k p)).length k1) (castL (cfg n k p))) := fun p W hp hb => by
    obtain ⟨u1, g1, o1, hu1, e1, c1, hr1⟩ := (h.cfgs.below hb).row (rowsN_at (cfg_at (n := n) (k := k) (p := p) hp))
    obtain ⟨A1, k1, rfl, -⟩ := hr1.form
    exact ⟨g1, o1, A1, k1, e1, c1, hr1⟩
  have HCM : Hid (∀ (p : Nat) (W : World), p < (gameN l n k).P → Below w.heap.size w W → ∃ g o A1 k1, Am = some ⟨g, o, none⟩ ∧ W.cell? ⟨g, o + p, none⟩ = some (.slice A1 (mvN l n k p).length k1) ∧ Ints W (.slice A1 (mvN l n k p).length k1) (mvN l n k p)) := fun p W hp hb => by
    obtain ⟨u1, g1, o1, hu1, e1, c1, hr1⟩ := (h.moves.below hb).row (mvG_at hp)
    obtain ⟨A1, k1, rfl, -⟩ := hr1.form
    exact ⟨g1, o1, A1, k1, e1, c1, hr1⟩
  have HMV := Lib.hid (fun (p q : Nat) (i : Nat) (hi : (mvN l n k p)[i]? = some (q : Int)) => mem_nw.1 (List.mem_of_getElem? hi))
  have HB0 : Hid (Below w.heap.size w ((w.alloc (.cells #[.slice Af (gameN l n k).P cf, .slice Am (gameN l n k).P cm, .slice Ab n cb] 75)).alloc (.cells #[] 25))) := ((Below.refl _ _).alloc (Nat.le_refl _) _).alloc (by simp) _
  have HG0 := Lib.hid ((Blk.new w 75 #[.slice Af (gameN l n k).P cf, .slice Am (gameN l n k).P cm, .slice Ab n cb]).alloc (.cells #[] 25))
  have HO0 : Hid (OwnG ((w.alloc (.cells #[.slice Af (gameN l n k).P cf, .slice Am (gameN l n k).P cm, .slice Ab n cb] 75)).alloc (.cells #[] 25)) w.heap.size (.slice (some ⟨w.heap.size + 1, 0, none⟩) 0 0) [] (tabT n (tmTo (gameN l n k) 0) 0)) := by
    have h_ := own_new0 (w.alloc (.cells #[.slice Af (gameN l n k).P cf, .slice Am (gameN l n k).P cm, .slice Ab n cb] 75)) 25 1
    rw [World.size_alloc] at h_
    exact ⟨own_base h_ (by omega), fun i u r hu => by simp at hu, fun i j u u' k _ hu => by simp at hu⟩
  clear h hPl
  go_enter Try.func63, Try.ntmps63
  go_wp2_with fail
  go_loopg [3, 4] (gameN l n k).P (fun g ov cv wr => ∃ (c9 : Nat) (ow : Value) (us : List Value), ow = ov ∧ c9 + g = (gameN l n k).P ∧ cv = .int .i64 (c9 : Int) ∧ OwnG wr w.heap.size ow us (tabT n (tmTo (gameN l n k) 0) c9) ∧ Blk wr w.heap.size 75 #[.slice Af (gameN l n k).P cf, .slice Am (gameN l n k).P cm, .slice Ab n cb] ∧ Below w.heap.size w wr)
  case atStart => exact ⟨0, _, _, rfl, by omega, rfl, HO0.out, HG0.out, HB0.out⟩
  case round =>
    clear HO0 HG0 HB0
    obtain ⟨c9, ow, us, rfl, hcg, rfl, hG, hgb, hB⟩ := hrel
    obtain ⟨p0, p1, p2⟩ := blk3 hgb
    cases gk with
    | zero =>
      obtain rfl : (gameN l n k).P = c9 := by omega
      have HG := Lib.hid hG
      have HGB := Lib.hid hgb
      have HB := Lib.hid hB
      clear hG hgb hB
      have hnn : (gameN l n k).P * n ≤ 200 * 8 := Nat.mul_le_mul hP hn
      have HCNT : Hid (∀ t, cnt (gameN l n k) t ≤ (gameN l n k).P * n) := fun t => cnt_le (gameN l n k) t
      go_wp2_with fail
      go_loopg [3, 7] ((gameN l n k).P * n + 1) (fun g ov tv wr => ∃ (t : Nat) (ow : Value) (us : List Value), ow = ov ∧ tv = .int .i64 ((t + 1 : Nat) : Int) ∧ t + g ≤ (gameN l n k).P * n + 1 ∧ Hid ((gameN l n k).P * n + 1 ≤ g + cnt (gameN l n k) t) ∧
        OwnG wr w.heap.size ow us (tabT n (tmTo (gameN l n k) t) (gameN l n k).P) ∧ Blk wr w.heap.size 75 #[.slice Af (gameN l n k).P cf, .slice Am (gameN l n k).P cm, .slice Ab n cb] ∧ Below w.heap.size w wr)
      case atStart => exact ⟨0, _, _, rfl, rfl, by omega, (by show _ ≤ _; omega), HG.out, HGB.out, HB.out⟩
      case round =>
        clear HG HGB HB p0 p1 p2
        obtain ⟨t, ow, us, rfl, rfl, htg, hst, hG, hgb, hB⟩ := hrel
        obtain ⟨p0, p1, p2⟩ := blk3 hgb
        have hfu := hst.out
        have hcl := HCNT.out t
        cases gk with
        | zero => exfalso; omega
        | succ g3 =>
          obtain ⟨wo, hwo⟩ : ∃ wo, wo = wr := ⟨_, rfl⟩
          subst hwo
          obtain ⟨A4, c4, rfl⟩ := own_form hG.1
          rw [tabT_len] at *
          have HG := Lib.hid hG
          have HGB := Lib.hid hgb
          have HB := Lib.hid hB
          have HFU := Lib.hid hfu
          have hsz := hgb.lt
          have ht64 : t ≤ 1700 := by omega
          have HN0 : Hid (OwnG (wo.alloc (.cells #[] 25)) wo.heap.size (.slice (some ⟨wo.heap.size, 0, none⟩) 0 0) [] (tabT n (tmTo (gameN l n k) (t + 1)) 0)) := ⟨own_new0 wo 25 1, fun i u r hu => by simp at hu, fun i j u u' k _ hu => by simp at hu⟩
          have HB1 : Hid (Below wo.heap.size wo (wo.alloc (.cells #[] 25))) := (Below.refl _ _).alloc (Nat.le_refl _) _
          clear hG hgb hB hst hfu hcl
          go_wp2_with fail
          go_loopg [8, 9, 10] (gameN l n k).P (fun g nv bv cv wr => ∃ (q : Nat) (b : Bool) (nw9 : Value) (us2 : List Value), nw9 = nv ∧ bv = .bool b ∧ q + g = (gameN l n k).P ∧ cv = .int .i64 (q : Int) ∧ Hid ((b = true → ¬ Stable (gameN l n k) t) ∧ (b = false → ∀ p r, p < q → r < n → win (gameN l n k) (t + 1) p r = true → win (gameN l n k) t p r = true)) ∧
            OwnG wr wo.heap.size nw9 us2 (tabT n (tmTo (gameN l n k) (t + 1)) q) ∧ Below wo.heap.size wo wr)
          case atStart => exact ⟨0, false, _, _, rfl, rfl, by omega, rfl, ⟨fun h => (by cases h), fun _ p r hp => by omega⟩, HN0.out, HB1.out⟩
          case round =>
            clear HN0 HB1 p0 p1 p2
            obtain ⟨q, b, nw9, us2, rfl, rfl, hqg, rfl, hch, hN, hB1⟩ := hrel
            have hgi := HGB.out.below hB1 HGB.out.lt
            obtain ⟨p0, p1, p2⟩ := blk3 hgi
            obtain ⟨A8, c8, rfl⟩ := own_form hN.1
            rw [tabT_len] at *
            cases gk with
            | zero =>
              obtain rfl : (gameN l n k).P = q := by omega
              have HN := Lib.hid (hN.base HB.out.size)
              have HB5 := Lib.hid (btrans HB.out hB1)
              have HG5 := Lib.hid hgi
              cases b with
              | true =>
                have HREL : Hid ((gameN l n k).P * n + 1 ≤ g3 + cnt (gameN l n k) (t + 1)) := by
                  have h1 := cnt_grow (hch.out.1 rfl)
                  have h2 := HFU.out
                  show _ ≤ _
                  omega
                have hw2 : IntKind.i64.wrap (((t + 1 : Nat) : Int) + 1) = ((t + 1 + 1 : Nat) : Int) := by
                  rw [show ((t + 1 : Nat) : Int) + 1 = ((t + 1 + 1 : Nat) : Int) from by omega]; exact IntWalk.i64_in _ (by omega)
                clear hN hB1 hgi hch
                generalize ((t + 1 : Nat) : Int) = tt at *
                go_wp2_with fail
                go_roundg g3
                case measure => omega
                case rel => exact ⟨t + 1, _, us2, rfl, rfl, by omega, HREL, HN.out, HG5.out, HB5.out⟩
              | false =>
                have hstab : Stable (gameN l n k) t := fun p r hp hr => hch.out.2 rfl p r hp hr
                have HE : Hid (tabT n (tmTo (gameN l n k) (t + 1)) (gameN l n k).P = gridG (gameN l n k).P n (tms (gameN l n k))) := gridT_congr fun p r hp hr => (tms_eq hstab.next hp hr).symm
                clear hN hB1 hgi hch hstab
                go_wp2_with fail
                go_ret
                exact ⟨A8, c8, us2, rfl, by rw [← HE.out]; exact HN.out, HB5.out⟩
            | succ g4 =>
              have hqn : q < (gameN l n k).P := by omega
              have hqn' : (q : Int) < ((gameN l n k).P : Int) := by omega
              have hG1 := HG.out.below hB1
              obtain ⟨gr, A5, c5, rfl, f5, hI⟩ := row_at9 hG1 rfl hqn
              have hrl := rowL_len n (tmTo (gameN l n k) t q)
              have HOW := Lib.hid (l1Own_any _ (rowL n (tmTo (gameN l n k) t q)) wr hI (by omega))
              rw [hrl] at HOW
              have HN := Lib.hid hN
              have HB2 := Lib.hid hB1
              have HRL := Lib.hid hrl
              clear hG1 hI hN hB1 hgi hrl
              go_wp2_with fail
              refine HOW.out.mono ?_
              rintro e w5 ⟨A6, c6, rfl, o6, b6⟩
              rw [HRL.out] at o6 ⊢
              have HB6 := Lib.hid b6
              obtain ⟨wi, hwi⟩ : ∃ wi, wi = wr := ⟨_, rfl⟩
              subst hwi
              have HR5 : Hid (w5.ownsRow wi.heap.size 3 1 (.slice A6 n c6) n (cellsI (mixL n (tmTo (gameN l n k) t q) (tmTo (gameN l n k) (t + 1) q) 0))) := by
                show World.ownsRow _ _ _ _ _ _ _
                rw [mixL_zero]; exact o6
              have hsi := HB2.out.size
              clear o6 b6 p0 p1 p2 f5
              go_wp2_with fail
              go_loopg [9, 12] n (fun g bv rv wr => ∃ (r : Nat) (b : Bool), bv = .bool b ∧ r + g = n ∧ rv = .int .i64 (r : Int) ∧ Hid ((b = true → ¬ Stable (gameN l n k) t) ∧ (b = false → (∀ p r, p < q → r < n → win (gameN l n k) (t + 1) p r = true → win (gameN l n k) t p r = true) ∧ ∀ r', r' < r → win (gameN l n k) (t + 1) q r' = true → win (gameN l n k) t q r' = true)) ∧
                wr.ownsRow wi.heap.size 3 1 (.slice A6 n c6) n (cellsI (mixL n (tmTo (gameN l n k) t q) (tmTo (gameN l n k) (t + 1) q) r)) ∧ Below wi.heap.size wi wr)
              case atStart => exact ⟨0, b, rfl, by omega, rfl, ⟨hch.out.1, fun hb => ⟨hch.out.2 hb, fun r' hr => by omega⟩⟩, HR5.out, HB6.out⟩
              case round =>
                clear HR5 HB6
                obtain ⟨r, b, rfl, hrg, rfl, hch, hrow, hB6⟩ := hrel
                have HBW := Lib.hid (btrans HB2.out hB6)
                have hgi := HGB.out.below HBW.out HGB.out.lt
                obtain ⟨p0, p1, p2⟩ := blk3 hgi
                cases gk with
                | zero =>
                  obtain rfl : n = r := by omega
                  rw [mixL_all] at hrow
                  have HCH : Hid ((b = true → ¬ Stable (gameN l n k) t) ∧ (b = false → ∀ p x, p < q + 1 → x < n → win (gameN l n k) (t + 1) p x = true → win (gameN l n k) t p x = true)) := by
                    refine ⟨hch.out.1, fun hb p x hp hx hw => ?_⟩
                    by_cases e : p = q
                    · subst e; exact (hch.out.2 hb).2 x hx hw
                    · exact (hch.out.2 hb).1 p x (by omega) hx hw
                  have HT := Lib.hid (tabT_succ n (tmTo (gameN l n k) (t + 1)) q)
                  have HU5 : Hid (wr.ownsRow wi.heap.size 3 1 (.slice A6 n c6) (rowL n (tmTo (gameN l n k) (t + 1) q)).length (cellsI (rowL n (tmTo (gameN l n k) (t + 1) q)))) := by
                    show World.ownsRow _ _ _ _ _ _ _
                    rw [rowL_len]; exact hrow
                  have hul : us2.length ≤ 200 := by rw [HN.out.len, tabT_len]; omega
                  have htl : (tabT n (tmTo (gameN l n k) (t + 1)) q).length ≤ 200 := by rw [tabT_len]; omega
                  have hszw2 := HBW.out.size
                  have hown5 := (HN.out.below hB6).1
                  have HB7 := Lib.hid hB6
                  clear hrow hB6 hgi hch
                  generalize tabT n (tmTo (gameN l n k) (t + 1)) q = rows at *
                  generalize rowL n (tmTo (gameN l n k) (t + 1) q) = row9 at *
                  go_wp2_with (at_builtin; refine wpList_append_own _ rfl _ _ 27 rfl wo.heap.size 25 i1 (.slice none 0 0) 1 24 Try.underlying27 hi1 hy0 hy1 hy2 rfl (by decide) _ _ _ rfl (hown5.alloc _) ⟨wr.heap.size, 0, none⟩ 1 1 [.slice A6 n c6] rfl rfl (cell_one_new _ _ _) (fun x hx => by simp at hx; subst hx; rfl) (by unfold maxLen; omega) (by omega) (by simp; omega) ?_; intro v6 w6 hown6 hgrow6 _)
                  have HG6 := Lib.hid (OwnG.push HN.out HB7.out hsi HU5.out hown6 rfl hgrow6)
                  have HB8 := Lib.hid ((HBW.out.alloc (by omega) (.cells #[.slice A6 n c6] 25)).grown hgrow6 (by simp; omega) (fun j e => (hown5.lt j e).1))
                  clear hown6 hgrow6 hown5
                  go_roundg g4
                  case measure => omega
                  case rel => exact ⟨q + 1, b, _, _, rfl, rfl, by omega, by go_num, HCH, by rw [HT.out]; exact HG6.out, HB8.out⟩
                | succ g6 =>
                  have hrn : r < n := by omega
                  have hrn' : (r : Int) < (n : Int) := by omega
                  have hmx := tm_small (G := (gameN l n k)) t q r
                  have HROW := Lib.hid hrow
                  have HB7 := Lib.hid hB6
                  have HPUT := Lib.hid (mixL_put (T := (tmTo (gameN l n k) t q)) (U := (tmTo (gameN l n k) (t + 1) q)) hrn)
                  have HKEEP := Lib.hid (mixL_keep (T := (tmTo (gameN l n k) t q)) (U := (tmTo (gameN l n k) (t + 1) q)) hrn)
                  have HAT := Lib.hid (mixL_at (T := (tmTo (gameN l n k) t q)) (U := (tmTo (gameN l n k) (t + 1) q)) hrn)
                  have HLAT : Hid ((mixL n (tmTo (gameN l n k) t q) (tmTo (gameN l n k) (t + 1) q) (r + 1))[r]? = some ((tmTo (gameN l n k) (t + 1) q) r)) := by
                    show _ = _
                    rw [← HPUT.out, List.getElem?_set_self (by rw [mixL_len]; exact hrn)]
                  have HNN := Lib.hid (next_no4 (G := (gameN l n k)) (l := l) (t := t) (p := q) (r := r) HBE.out)
                  have HNY := Lib.hid (fun z hz hm h1 h2 => next_yes4 (G := (gameN l n k)) (l := l) (t := t) (p := q) (r := r) (q := z) HBE.out hz hm h1 h2)
                  have hML := mvN_len l n k q
                  clear hrow hB6 hgi p0 p1 p2
                  go_wp2_with fail
                  go_loopg [9, 13] (mvN l n k q).length (fun g bv iv wr => ∃ (i : Nat) (d b : Bool), bv = .bool b ∧ i + g = (mvN l n k q).length ∧ iv = .int .i64 (i : Int) ∧ Hid (b = true → ¬ Stable (gameN l n k) t) ∧ Hid (b = false → (∀ p r, p < q → r < n → win (gameN l n k) (t + 1) p r = true → win (gameN l n k) t p r = true) ∧ ∀ r', r' < r → win (gameN l n k) (t + 1) q r' = true → win (gameN l n k) t q r' = true) ∧
                    Hid (d = true → b = true ∧ (tmTo (gameN l n k) (t + 1) q) r = ((t + 1 : Nat) : Int)) ∧ Hid (d = false → ∀ (j z : Nat), j < i → (mvN l n k q)[j]? = some (z : Int) → afterG (gameN l n k) (tmTo (gameN l n k) t) l z r < 0) ∧
                    wr.ownsRow wi.heap.size 3 1 (.slice A6 n c6) n (cellsI (mixL n (tmTo (gameN l n k) t q) (tmTo (gameN l n k) (t + 1) q) (if d = true then r + 1 else r))) ∧ Below wi.heap.size wi wr)
                  case atStart => exact ⟨0, false, b, rfl, by omega, rfl, hch.out.1, hch.out.2, fun h => (by cases h), fun _ j z hj => by omega, HROW.out, HB7.out⟩
                  case round =>
                    clear HROW HB7 hch
                    obtain ⟨i, d, b, rfl, hig, rfl, hbs, hbn, hdt, hdf, hrow, hB6⟩ := hrel
                    have HBW := Lib.hid (btrans HB2.out hB6)
                    have hgi := HGB.out.below HBW.out HGB.out.lt
                    obtain ⟨p0, p1, p2⟩ := blk3 hgi
                    have hBww := btrans HB.out HBW.out
                    obtain ⟨gm, om, Aq, kq, rfl, m0, hIm⟩ := HCM.out q wr hqn hBww
                    obtain ⟨_, _, hfm, hcm⟩ := hIm.form
                    cases hfm
                    have HB6 := Lib.hid hB6
                    cases d with
                    | true =>
                      have h1 := hdt.out rfl
                      rw [if_pos rfl] at hrow
                      obtain ⟨gd, rfl, cr, -⟩ := own_at hrow (cellsI_at HLAT.out)
                      rw [h1.2] at cr
                      have hb1 : b = true := h1.1
                      have HFL : Hid ((b = true → ¬ Stable (gameN l n k) t) ∧ (b = false → (∀ p r, p < q → r < n → win (gameN l n k) (t + 1) p r = true → win (gameN l n k) t p r = true) ∧ ∀ r', r' < r + 1 → win (gameN l n k) (t + 1) q r' = true → win (gameN l n k) t q r' = true)) := ⟨hbs.out, fun h => by rw [hb1] at h; cases h⟩
                      have HRX := Lib.hid hrow
                      have d0 : decide (((t + 1 : Nat) : Int) < 0) = false := decide_eq_false (by omega)
                      clear h1 hb1 hrow hbs hbn hdt hdf hgi hBww hIm hcm hB6
                      generalize ((t + 1 : Nat) : Int) = tt at *
                      by_cases hil : i < (mvN l n k q).length
                      · have hil' : (i : Int) < ((mvN l n k q).length : Int) := by omega
                        go_wp2_with fail
                        go_roundg g6
                        case measure => omega
                        case rel => exact ⟨r + 1, b, rfl, by omega, by go_num, HFL, HRX.out, HB6.out⟩
                      · have hil' : decide ((i : Int) < ((mvN l n k q).length : Int)) = false := decide_eq_false (by omega)
                        have hil2 : decide (i < (mvN l n k q).length) = false := decide_eq_false hil
                        go_wp2_with fail
                        go_roundg g6
                        case measure => omega
                        case rel => exact ⟨r + 1, b, rfl, by omega, by go_num, HFL, HRX.out, HB6.out⟩
                    | false =>
                      rw [if_neg (by simp)] at hrow
                      obtain ⟨gd, rfl, cr, hgd1, hgd2⟩ := own_at hrow (cellsI_at HAT.out)
                      by_cases hil : i < (mvN l n k q).length
                      · have hil' : (i : Int) < ((mvN l n k q).length : Int) := by omega
                        by_cases hneg : (tmTo (gameN l n k) t q) r < 0
                        · obtain ⟨z0, hz0⟩ : ∃ z0, (mvN l n k q)[i]? = some z0 := ⟨_, List.getElem?_eq_getElem hil⟩
                          obtain ⟨z, hzP, hzm, rfl⟩ := mem_nw.1 (List.mem_of_getElem? hz0)
                          have hzn : (z : Int) < ((gameN l n k).P : Int) := by omega
                          obtain ⟨gq, oq, hAq, mi⟩ := hcm i (z : Int) hz0
                          subst hAq
                          have hr1 := hgd2
                          have HCA := Lib.hid (HAF.out (tmTo (gameN l n k) t) z r (.slice (some ⟨gr, 0, none⟩) (gameN l n k).P c4) us wr.drew hBww.drew (by have h_ := gridl.readsG_of_own (HG.out.below HBW.out.drew); exact h_) hzP hrn)
                          have HROW := Lib.hid hrow
                          have HZ0 := Lib.hid hz0
                          have dn : decide ((tmTo (gameN l n k) t q) r < 0) = true := decide_eq_true hneg
                          have HNEG := Lib.hid hneg
                          have HZM := Lib.hid hzm
                          have zr := hrow.frozenAt r
                          clear hrow hgi hBww hIm hcm hB6 hz0 hzm hneg
                          by_cases haf : 0 ≤ afterG (gameN l n k) (tmTo (gameN l n k) t) l z r
                          · have hny := HNY.out z hzP HZM.out HNEG.out haf
                            have HBT : Hid (¬ Stable (gameN l n k) t) := fun hs => by
                              have h_ := hs q r hqn hrn hny.2.2
                              rw [hny.2.1] at h_
                              cases h_
                            have HUR : Hid ((tmTo (gameN l n k) (t + 1) q) r = ((t + 1 : Nat) : Int)) := hny.1
                            have da : decide (0 ≤ afterG (gameN l n k) (tmTo (gameN l n k) t) l z r) = true := decide_eq_true haf
                            clear hny haf hbs hbn hdt hdf
                            generalize afterG (gameN l n k) (tmTo (gameN l n k) t) l z r = av at *
                            have HUR2 : Hid ((tmTo (gameN l n k) (t + 1) q) r = (t : Int) + 1) := by have h_ := HUR.out; show _ = _; omega
                            go_wp2_with fail
                            go_still_tail 11, (by kernel_rfl)
                            change wpList _ _ _ _ _ wr.drew
                            go_wp2_with fail
                            refine HCA.out.mono ?_
                            rintro e w7 ⟨rfl, b7⟩
                            have d7 : Below wr.heap.size wr w7 := btrans (Below.refl _ _).drew b7
                            have hr7 := own_below HROW.out d7
                            have c7 := nearv.cell_keep cr d7
                            have z7 := hr7.frozenAt r
                            have HR8 := Lib.hid (hr7.stored r (.int .i64 ((t : Int) + 1))).1
                            have HB8 := Lib.hid ((btrans HB6.out d7).setCell (p := ⟨gd, r, none⟩) hgd1 (.int .i64 ((t : Int) + 1)))
                            clear hr7 b7 d7 cr zr p0 p1 p2 m0 mi
                            go_wp2_with fail
                            obtain ⟨g7, rfl⟩ : ∃ g7, gk = g7 + 1 := ⟨gk - 1, by omega⟩
                            go_roundg g7
                            case measure => omega
                            case rel => exact ⟨i + 1, true, true, rfl, by omega, by go_num, fun _ => HBT.out, (fun h => by cases h), fun _ => ⟨rfl, HUR.out⟩, (fun h => by cases h), (by rw [if_pos rfl]; have h_ := HR8.out; rw [cells_set4] at h_; rw [← HPUT.out, HUR2.out]; exact h_), HB8.out⟩
                          · have da : decide (0 ≤ afterG (gameN l n k) (tmTo (gameN l n k) t) l z r) = false := decide_eq_false haf
                            have HDF : Hid (∀ (j z : Nat), j < i + 1 → (mvN l n k q)[j]? = some (z : Int) → afterG (gameN l n k) (tmTo (gameN l n k) t) l z r < 0) := fun j z' hj hz' => by
                              by_cases e : j = i
                              · subst e
                                have h_ := HZ0.out
                                rw [h_] at hz'
                                have : z = z' := by injection hz' with h; omega
                                subst this; omega
                              · exact hdf.out rfl j z' (by omega) hz'
                            have HBS := Lib.hid hbs.out
                            have HBN := Lib.hid hbn.out
                            clear haf hbs hbn hdt hdf
                            generalize afterG (gameN l n k) (tmTo (gameN l n k) t) l z r = av at *
                            go_wp2_with fail
                            go_still_tail 11, (by kernel_rfl)
                            change wpList _ _ _ _ _ wr.drew
                            go_wp2_with fail
                            refine HCA.out.mono ?_
                            rintro e w7 ⟨rfl, b7⟩
                            have d7 : Below wr.heap.size wr w7 := btrans (Below.refl _ _).drew b7
                            have HR8 := Lib.hid (own_below HROW.out d7)
                            have HB8 := Lib.hid (btrans HB6.out d7)
                            clear b7 d7 cr zr p0 p1 p2 m0 mi
                            go_wp2_with fail
                            obtain ⟨g7, rfl⟩ : ∃ g7, gk = g7 + 1 := ⟨gk - 1, by omega⟩
                            go_roundg g7
                            case measure => omega
                            case rel => exact ⟨i + 1, false, b, rfl, by omega, by go_num, HBS.out, HBN.out, (fun h => by cases h), fun _ => HDF.out, (by rw [if_neg (by simp)]; exact HR8.out), HB8.out⟩
                        · have hex := HNN.out (.inl (by omega))
                          have HFL : Hid ((b = true → ¬ Stable (gameN l n k) t) ∧ (b = false → (∀ p r, p < q → r < n → win (gameN l n k) (t + 1) p r = true → win (gameN l n k) t p r = true) ∧ ∀ r', r' < r + 1 → win (gameN l n k) (t + 1) q r' = true → win (gameN l n k) t q r' = true)) :=
                            ⟨hbs.out, fun hb => ⟨(hbn.out hb).1, fun r' hr' hw => by
                              by_cases e : r' = r
                              · subst e; exact hex.2 hw
                              · exact (hbn.out hb).2 r' (by omega) hw⟩⟩
                          have HRX : Hid (wr.ownsRow wi.heap.size 3 1 (.slice (some ⟨gd, 0, none⟩) n c6) n (cellsI (mixL n (tmTo (gameN l n k) t q) (tmTo (gameN l n k) (t + 1) q) (r + 1)))) := by
                            show World.ownsRow _ _ _ _ _ _ _
                            rw [HKEEP.out hex.1]; exact hrow
                          have d0 : decide ((tmTo (gameN l n k) t q) r < 0) = false := decide_eq_false hneg
                          clear hrow hbs hbn hdt hdf hgi hBww hIm hcm hB6 hex
                          go_wp2_with fail
                          go_roundg g6
                          case measure => omega
                          case rel => exact ⟨r + 1, b, rfl, by omega, by go_num, HFL, HRX.out, HB6.out⟩
                      · have hex := HNN.out (.inr fun z hz hm => by
                          obtain ⟨j, hj⟩ := List.getElem?_of_mem (show (z : Int) ∈ mvN l n k q from mem_nw.2 ⟨z, hz, hm, rfl⟩)
                          exact hdf.out rfl j z (by have := (List.getElem?_eq_some_iff.1 hj).1; omega) hj)
                        have HFL : Hid ((b = true → ¬ Stable (gameN l n k) t) ∧ (b = false → (∀ p r, p < q → r < n → win (gameN l n k) (t + 1) p r = true → win (gameN l n k) t p r = true) ∧ ∀ r', r' < r + 1 → win (gameN l n k) (t + 1) q r' = true → win (gameN l n k) t q r' = true)) :=
                          ⟨hbs.out, fun hb => ⟨(hbn.out hb).1, fun r' hr' hw => by
                            by_cases e : r' = r
                            · subst e; exact hex.2 hw
                            · exact (hbn.out hb).2 r' (by omega) hw⟩⟩
                        have HRX : Hid (wr.ownsRow wi.heap.size 3 1 (.slice (some ⟨gd, 0, none⟩) n c6) n (cellsI (mixL n (tmTo (gameN l n k) t q) (tmTo (gameN l n k) (t + 1) q) (r + 1)))) := by
                          show World.ownsRow _ _ _ _ _ _ _
                          rw [HKEEP.out hex.1]; exact hrow
                        have hil' : decide ((i : Int) < ((mvN l n k q).length : Int)) = false := decide_eq_false (by omega)
                        have hil2 : decide (i < (mvN l n k q).length) = false := decide_eq_false hil
                        clear hrow hbs hbn hdt hdf hgi hBww hIm hcm hB6 hex
                        go_wp2_with fail
                        go_roundg g6
                        case measure => omega
                        case rel => exact ⟨r + 1, b, rfl, by omega, by go_num, HFL, HRX.out, HB6.out⟩
    | succ g2 =>
      have hcn : c9 < (gameN l n k).P := by omega
      have hcn' : (c9 : Int) < ((gameN l n k).P : Int) := by omega
      obtain ⟨wo, hwo⟩ : ∃ wo, wo = wr := ⟨_, rfl⟩
      subst hwo
      have HG := Lib.hid hG
      have HGB := Lib.hid hgb
      have HB := Lib.hid hB
      have hsz := hgb.lt
      have HR0 : Hid ((wo.alloc (.cells #[] 3)).ownsRow wo.heap.size 3 1 (.slice (some ⟨wo.heap.size, 0, none⟩) 0 0) (rowL 0 (tmTo (gameN l n k) 0 c9)).length (cellsI (rowL 0 (tmTo (gameN l n k) 0 c9)))) := own_new0 wo 3 1
      have HB1 : Hid (Below wo.heap.size wo (wo.alloc (.cells #[] 3))) := (Below.refl _ _).alloc (Nat.le_refl _) _
      clear hG hgb hB
      go_wp2_with fail
      go_loopg [5, 6] n (fun g rv iv wr => ∃ (r : Nat) (rw9 : Value), rw9 = rv ∧ r + g = n ∧ iv = .int .i64 (r : Int) ∧ wr.ownsRow wo.heap.size 3 1 rw9 (rowL r (tmTo (gameN l n k) 0 c9)).length (cellsI (rowL r (tmTo (gameN l n k) 0 c9))) ∧ Below wo.heap.size wo wr)
      case atStart => exact ⟨0, _, rfl, by omega, rfl, HR0.out, HB1.out⟩
      case round =>
        clear HR0 HB1 p0 p1 p2
        obtain ⟨r, rw9, rfl, hrg, rfl, hrow, hB1⟩ := hrel
        have hgi := HGB.out.below hB1 HGB.out.lt
        obtain ⟨p0, p1, p2⟩ := blk3 hgi
        have hlr := rowL_len r (tmTo (gameN l n k) 0 c9)
        have hrl : (rowL r (tmTo (gameN l n k) 0 c9)).length ≤ 8 := by omega
        cases gk with
        | zero =>
          obtain rfl : n = r := by omega
          have hG5 := HG.out.below hB1
          have HU5 := Lib.hid hrow
          have hul : us.length ≤ 200 := by rw [HG.out.len, tabT_len]; omega
          have htl : (tabT n (tmTo (gameN l n k) 0) c9).length ≤ 200 := by rw [tabT_len]; omega
          have hszw := HB.out.size
          have hszw2 := hB1.size
          have HB5 := Lib.hid (btrans HB.out hB1)
          have HK5 := Lib.hid hgi
          have HT := Lib.hid (tabT_succ n (tmTo (gameN l n k) 0) c9)
          have hown5 := hG5.1
          have HBW := Lib.hid hB1
          clear hlr hgi hG5 hrow hB1
          generalize tabT n (tmTo (gameN l n k) 0) c9 = rows at *
          obtain ⟨A9, c8, rfl⟩ := own_form hown5
          obtain ⟨A7, c7, rfl⟩ := own_form HU5.out
          go_wp2_with (at_builtin; refine wpList_append_own _ rfl _ _ 27 rfl w.heap.size 25 i1 (.slice none 0 0) 1 24 Try.underlying27 hi1 hy0 hy1 hy2 rfl (by decide) _ _ _ rfl (hown5.alloc _) ⟨wr.heap.size, 0, none⟩ 1 1 [.slice A7 (rowL n (tmTo (gameN l n k) 0 c9)).length c7] rfl rfl (cell_one_new _ _ _) (fun x hx => by simp at hx; subst hx; rfl) (by unfold maxLen; omega) (by omega) (by simp; omega) ?_; intro v6 w6 hown6 hgrow6 _)
          have HG6 := Lib.hid (OwnG.push HG.out HBW.out hszw HU5.out hown6 rfl hgrow6)
          have HK6 := Lib.hid ((HK5.out.alloc (.cells #[.slice A7 (rowL n (tmTo (gameN l n k) 0 c9)).length c7] 25)).grown hgrow6 (fun e => mids.own_ne hown5 HK5.out (by decide) e.symm))
          have HB6 := Lib.hid ((HB5.out.alloc (by omega) (.cells #[.slice A7 (rowL n (tmTo (gameN l n k) 0 c9)).length c7] 25)).grown hgrow6 (by simp; omega) (fun j e => (hown5.lt j e).1))
          clear hown6 hgrow6 hown5
          go_roundg g2
          case measure => omega
          case rel => exact ⟨c9 + 1, _, _, rfl, by omega, by go_num, by rw [HT.out]; exact HG6.out, HK6.out, HB6.out⟩
        | succ g4 =>
          have hrn' : (r : Int) < (n : Int) := by omega
          have HRS := Lib.hid (rowL_succ (tmTo (gameN l n k) 0 c9) r)
          have HTA := Lib.hid (HTK.out c9 r)
          obtain ⟨gf, of, A1, k1, rfl, f0, hI⟩ := HCF.out c9 wr hcn (btrans HB.out hB1)
          have hcl : (castL (cfg n k c9)).length ≤ 1048576 := by rw [castL_len, cfg_len hcn]; omega
          have HAS := Lib.hid (l1Has_any _ (castL (cfg n k c9)) (r : Int) wr hI hcl)
          rw [mem_cfg] at HAS
          have HB2 := Lib.hid hB1
          have hsz2 := hB1.size
          clear hlr hgi hB1 hI
          generalize tmTo (gameN l n k) 0 c9 r = d at *
          generalize rowL r (tmTo (gameN l n k) 0 c9) = m at *
          cases htk : decide (r ∈ cfg n k c9) with
          | true =>
            rw [htk] at HTA HAS
            have hd : d = 0 := HTA.out
            subst hd
            clear htk
            go_wp2_with fail
            refine HAS.out.mono ?_
            rintro e w' ⟨rfl, rfl⟩
            go_wp2_with (at_builtin; refine wpList_append_own _ rfl _ _ 25 rfl (wo.heap.size) 3 i0 (.int .i64 0) 1 8 Try.underlying25 hi hz0 hz1 hz2 rfl (by decide) _ _ _ rfl (hrow.alloc _) ⟨wr.heap.size, 0, none⟩ 1 1 [.int .i64 (0)] rfl rfl (cell_one_new _ _ _) (fun x hx => by simp at hx; subst hx; rfl) (by unfold maxLen; omega) (by omega) (by simp; omega) ?_; intro v2 w2 hown2 hgrow2 _)
            obtain ⟨hown3, hB3⟩ := push1 hrow hown2 hgrow2 (by omega)
            rw [← HRS.out] at hown3
            have HO3 := Lib.hid hown3
            have HB3 := Lib.hid (HB2.out.trans hB3)
            clear hown2 hgrow2 hown3 hB3
            go_roundg g4
            case measure => omega
            case rel => exact ⟨r + 1, _, rfl, by omega, by go_num, HO3.out, HB3.out⟩
          | false =>
            rw [htk] at HTA HAS
            have hd : d = -1 := HTA.out
            subst hd
            clear htk
            go_wp2_with fail
            refine HAS.out.mono ?_
            rintro e w' ⟨rfl, rfl⟩
            go_wp2_with (at_builtin; refine wpList_append_own _ rfl _ _ 25 rfl (wo.heap.size) 3 i0 (.int .i64 0) 1 8 Try.underlying25 hi hz0 hz1 hz2 rfl (by decide) _ _ _ rfl (hrow.alloc _) ⟨wr.heap.size, 0, none⟩ 1 1 [.int .i64 (-1)] rfl rfl (cell_one_new _ _ _) (fun x hx => by simp at hx; subst hx; rfl) (by unfold maxLen; omega) (by omega) (by simp; omega) ?_; intro v2 w2 hown2 hgrow2 _)
            obtain ⟨hown3, hB3⟩ := push1 hrow hown2 hgrow2 (by omega)
            rw [← HRS.out] at hown3
            have HO3 := Lib.hid hown3
            have HB3 := Lib.hid (HB2.out.trans hB3)
            clear hown2 hgrow2 hown3 hB3
            go_roundg g4
            case measure => omega
            case rel => exact ⟨r + 1, _, rfl, by omega, by go_num, HO3.out, HB3.out⟩
end Go.Proofs.Ytpeobnmfndelhaa.lists
