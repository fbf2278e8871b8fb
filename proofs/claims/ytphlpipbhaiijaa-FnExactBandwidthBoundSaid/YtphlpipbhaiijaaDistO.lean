/- The contracts of DistancesOf: of the program and of the model. -/
import Derived.Handy
import Derived.Test.YtphlpipbhaiijaaGridW
import Derived.Test.YtphlpipbhaiijaaGridL
import Derived.Test.YtphlpipbhaiijaaDistF
import Derived.Test.YtphlpipbhaiijaaDistS
import Derived.Test.YtphlpipbhaiijaaDistM
import Derived.Deep.DeepCutAuto
namespace Go.Proofs.Ytphlpipbhaiijaa.disto
open Go.RowKit P2 words edges ints owns good near adjs fns rets nearv sets grid reps dists distf
set_option linter.unusedVariables false

theorem distTo_at (n : Nat) (l : List Ed) {k x : Nat} (h : x < k) : (distTo n l k)[x]? = some (dist n (J1 l) x) := by simp [distTo, h]
/-- so many rows are done -/
noncomputable def rowsD (n : Nat) (l : List Ed) (k : Nat) : List (List Int) := distTo n l k ++ List.replicate (n - k) []
theorem rowsD_zero (n : Nat) (l : List Ed) : rowsD n l 0 = List.replicate n [] := by simp [rowsD, distTo]
theorem rowsD_len (n : Nat) (l : List Ed) {k : Nat} (h : k ≤ n) : (rowsD n l k).length = n := by simp [rowsD, distTo_len]; omega
theorem rowsD_all (n : Nat) (l : List Ed) : rowsD n l n = distG n l := by simp [rowsD, distG]
theorem rowsD_succ (n : Nat) (l : List Ed) {k : Nat} (h : k < n) : (rowsD n l k).set k (dist n (J1 l) k) = rowsD n l (k + 1) := by
  unfold rowsD
  obtain ⟨m, hm⟩ : ∃ m, n - k = m + 1 := ⟨n - k - 1, by omega⟩
  rw [List.set_append, if_neg (by rw [distTo_len]; omega), distTo_len, Nat.sub_self, hm, List.replicate_succ, List.set_cons_zero, distTo_succ, List.append_assoc, show n - (k + 1) = m from by omega]
  rfl
theorem sum_const (m : Nat) : ∀ (rows : List (List Int)), (∀ r, r ∈ rows → r.length = m) → (rows.map List.length).sum = rows.length * m
  | [], _ => by simp
  | r :: rs, h => by
    have := sum_const m rs (fun x hx => h x (List.mem_cons_of_mem _ hx))
    simp only [List.map_cons, List.sum_cons, List.length_cons, this, h r List.mem_cons_self, Nat.succ_mul]
    omega
theorem distG_len (n : Nat) (l : List Ed) : (distG n l).length = n := distTo_len n l n
theorem dist_mem {n : Nat} {l : List Ed} {r : List Int} (h : r ∈ distG n l) : ∃ x, x < n ∧ r = dist n (J1 l) x := by
  unfold distG distTo at h
  obtain ⟨x, hx, rfl⟩ := List.mem_map.1 h
  exact ⟨x, List.mem_range.1 hx, rfl⟩
theorem distO_len (s : Int) (l : List Ed) : gridl.tot (gdG (P2.Good s l) (distG s.toNat l)) ≤ 1048576 ∧ (gdG (P2.Good s l) (distG s.toNat l)).length ≤ 1048576 := by
  by_cases h : P2.Good s l
  · rw [gdG_yes h]
    have h8 := h.2.1
    unfold gridl.tot
    have hs : s.toNat ≤ 8 := by omega
    rw [sum_const s.toNat _ (fun r hr => by obtain ⟨x, hx, rfl⟩ := dist_mem hr; exact dist_len _ hx), distG_len]
    have := Nat.mul_le_mul hs hs
    omega
  · rw [gdG_no h]; simp [gridl.tot]

set_option maxHeartbeats 4000000 in
set_option maxRecDepth 100000 in
theorem implDistO_any (s : Int) (v : Value) (l : List Ed) (w : World) (h : Edges w v l) (hl : l.length ≤ 1048576) :
    Calls Try.prog 73 #[.agg #[.int .i64 s, v]] w (RetGr w (P2.Good s l) (distG s.toNat l)) := by
  obtain ⟨A, c, rfl, -⟩ := h.form
  have H := Lib.hid h
  have b0 : Below w.heap.size w (w.alloc (.cells #[.int .i64 s, .slice A l.length c] 29)) := (Below.refl _ _).alloc (Nat.le_refl _) _
  have g0 := Blk.new w 29 #[.int .i64 s, .slice A l.length c]
  have HG := Lib.hid (implIsGraph_any s _ l _ (h.below b0) hl)
  clear h
  by_cases hgd : P2.Good s l
  · rw [goodB_yes hgd] at HG
    have h0 := hgd.1
    have h8 := hgd.2.1
    obtain ⟨n, rfl⟩ : ∃ n : Nat, s = (n : Int) := ⟨s.toNat, by omega⟩
    have hn : n ≤ 8 := by omega
    rw [Int.toNat_natCast]
    have HGD := Lib.hid hgd
    clear hgd
    go_enter Try.func73, Try.ntmps73
    go_wp2_with fail
    refine HG.out.mono ?_
    rintro e w1 ⟨rfl, b1⟩
    have e1 := btrans b0 b1
    have g1 := g0.below b1 g0.lt
    clear HG b0 b1 g0
    obtain ⟨p0, p1, -, -⟩ := g1.two
    go_wp2_with fail
    refine (neighborTest_any (n : Int) (.slice A l.length c) l w1 (H.out.below e1) hl (fun e he => by have := HGD.out.mem he; exact ⟨in64_small (by omega) (by omega), in64_small (by omega) (by omega)⟩)).mono ?_
    rintro e w2 ⟨cn, rfl, n2, b2⟩
    have e2 := btrans e1 b2
    have g2 := g1.below b2 g1.lt
    clear g1 e1 b2 p0 p1
    obtain ⟨p0, p1, -, -⟩ := g2.two
    have HM := Lib.hid ((OwnG.made w2 n (by unfold maxLen; omega)).base e2.size)
    have HN := Lib.hid n2
    have HG2 := Lib.hid g2
    have HE2 := Lib.hid e2
    have HB2 := Lib.hid ((Below.refl w2.heap.size w2).alloc (Nat.le_refl _) (.cells (madeCells #[.slice none 0 0] (n * 1)) 25))
    clear n2 g2 e2
    obtain ⟨i1, hi1, hy0, hy1, hy2⟩ := info_parts infoRow
    have hmk := fun (W : World) => run_make_rowN (P := Try.prog) 44 25 i1 (.slice none 0 0) Try.underlying44 hi1 hy0 .i64 .i64 n n (Nat.le_refl _) (by rw [hy2]; omega) (by omega) W
    rw [hy1] at hmk
    go_wp2_with fail
    clear p0 p1
    rw [Nat.mul_one] at HM HB2
    go_loopg [17] n (fun g i wr => ∃ (k : Nat) (us : List Value), k + g = n ∧ i = .int .i64 (k : Int) ∧ OwnG wr w.heap.size (.slice (some ⟨w2.heap.size, 0, none⟩) n n) us (rowsD n l k) ∧ Below w2.heap.size w2 wr)
    case atStart => exact ⟨0, _, by omega, rfl, by rw [rowsD_zero]; exact HM.out, HB2.out⟩
    case round =>
      clear HM HB2 hmk
      obtain ⟨k, us, hkg, rfl, hG, hB⟩ := hrel
      have hgb := HG2.out.below hB HG2.out.lt
      obtain ⟨p0, p1, -, -⟩ := hgb.two
      have hsz := hB.size
      cases gk with
      | zero =>
        obtain rfl : k = n := by omega
        rw [rowsD_all] at hG
        have hlen := distG_len k l
        clear p0 p1 hgb
        go_wp2_with fail
        go_ret2
        have e : Ending.returned (.tuple #[.slice (some ⟨w2.heap.size, 0, none⟩) k k, .bool true]) = .returned (.tuple #[.slice (some ⟨w2.heap.size, 0, none⟩) (distG k l).length k, .bool true]) := by rw [hlen]
        change RetGr w (P2.Good (k : Int) l) (distG k l) (.returned (.tuple #[.slice (some ⟨w2.heap.size, 0, none⟩) k k, .bool true])) _
        rw [e]
        exact RetGr.yes HGD.out (by rw [hlen]; exact hG) (btrans HE2.out hB)
      | succ g2 =>
        have hlt : k < n := by omega
        have hlt' : (k : Int) < (n : Int) := by omega
        have HD := Lib.hid (distF_any n k cn l wr HGD.out (HN.out.below hB) hlt)
        have HG := Lib.hid hG
        have HB := Lib.hid hB
        have hsz2 := HE2.out.size
        clear hG hgb hB
        go_wp2_with fail
        refine HD.out.mono ?_
        rintro e w3 ⟨A3, c3, rfl, o3, b3⟩
        have hG3 := HG.out.below b3
        have hrl := rowsD_len n l (k := k) (by omega)
        have h1 := hG3.1
        rw [hrl] at h1
        have hul := hG3.len
        rw [hrl] at hul
        obtain ⟨u0, hu0⟩ : ∃ u, us[k]? = some u := ⟨_, List.getElem?_eq_getElem (by omega)⟩
        have f0 := h1.cellAt k (by omega)
        rw [hu0] at f0
        have z0 := h1.frozenAt k
        have hgr := h1.lt w2.heap.size rfl
        have HS : Hid (OwnG (w3.setCell ⟨w2.heap.size, k, none⟩ (.slice A3 (dist n (J0 l) k).length c3)) w.heap.size (.slice (some ⟨w2.heap.size, 0, none⟩) n n) (us.set k (.slice A3 (dist n (J0 l) k).length c3)) (rowsD n l (k + 1))) := by
          have h9 : OwnG w3 w.heap.size (.slice (some ⟨w2.heap.size, 0, none⟩) (rowsD n l k).length n) us (rowsD n l k) := by rw [hrl]; exact hG3
          have hfr := OwnG.fresh HG.out o3
          have := OwnG.store h9 (by rw [hrl]; exact hlt) (own_base o3 (by omega)) (fun i x b _ hx hb => hfr i x b hx hb)
          rw [show dist n (J0 l) k = dist n (J1 l) k from rfl, rowsD_succ n l hlt, hrl] at this
          exact this
        have HB3 := Lib.hid (btrans HB.out b3)
        clear hG3 h1 hrl hul
        go_wp2_with fail
        go_roundg g2
        case measure => omega
        case rel => exact ⟨k + 1, _, by omega, by go_num, HS.out, HB3.out.setCell (Nat.le_refl _) _⟩
  · rw [goodB_no hgd] at HG
    have HN := Lib.hid hgd
    clear hgd
    go_enter Try.func73, Try.ntmps73
    go_wp2_with fail
    refine HG.out.mono ?_
    rintro e w1 ⟨rfl, b1⟩
    go_wp2_with fail
    go_ret2
    exact RetGr.nil HN.out (btrans b0 b1)
end Go.Proofs.Ytphlpipbhaiijaa.disto
