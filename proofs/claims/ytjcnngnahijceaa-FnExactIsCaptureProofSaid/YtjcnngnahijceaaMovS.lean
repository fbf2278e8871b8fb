/- The contract of the model's l4Moves. -/
import Derived.Handy
import Derived.Test.YtjcnngnahijceaaSortS
import Derived.Test.YtjcnngnahijceaaPutL
import Derived.Test.YtjcnngnahijceaaListS
import Derived.Test.YtjcnngnahijceaaReachM
import Derived.Test.YtjcnngnahijceaaGameF
namespace Go.Proofs.Ytjcnngnahijceaa.lists
open Go.RowKit P2 words edges ints good adjs fns sets rets apps gridr grid trip covs times
set_option linter.unusedVariables false

def ballN (l : List Ed) (n c : Nat) : List Nat := (List.range n).filter (ballB l c)
theorem ballN_cast (l : List Ed) (n c : Nat) : castL (ballN l n c) = nw (ballB l c) n := rfl
theorem ball_lt {l : List Ed} {n c y : Nat} (hg : P2.Good (n : Int) l) (hc : c < n) (h : ballB l c y = true) : y < n := by
  rcases Bool.or_eq_true_iff.1 h with h1 | h1
  · have : c = y := by simpa using h1
    omega
  · have := (adj_node hg h1).2; omega
theorem ballN_mem {l : List Ed} {n c y : Nat} (hg : P2.Good (n : Int) l) (hc : c < n) : y ∈ ballN l n c ↔ ballB l c y = true := by
  unfold ballN
  rw [List.mem_filter, List.mem_range]
  exact ⟨fun h => h.2, fun h => ⟨ball_lt hg hc h, h⟩⟩
theorem ballN_len (l : List Ed) (n c : Nat) : (ballN l n c).length ≤ n := by
  unfold ballN; have := List.length_filter_le (ballB l c) (List.range n); rw [List.length_range] at this; exact this
/-- lists of moves of the first i cops; of the first j lists longer by one; of the first m nodes of the ball -/
def tupK (l : List Ed) (n : Nat) (cs : List Nat) (i : Nat) : List (List Nat) := (cs.take i).foldl (tupF (ballN l n)) [[]]
def tupJ (B : List Nat) (now : List (List Nat)) (j : Nat) : List (List Nat) := (now.take j).flatMap fun t => B.map fun y => t ++ [y]
def tupM (B t : List Nat) (m : Nat) : List (List Nat) := (B.take m).map fun y => t ++ [y]
theorem tupK_succ {l : List Ed} {n i c : Nat} {cs : List Nat} (h : cs[i]? = some c) : tupK l n cs (i + 1) = tupJ (ballN l n c) (tupK l n cs i) (tupK l n cs i).length := by
  unfold tupK tupJ
  rw [List.take_add_one, h, List.foldl_append, List.take_length]; rfl
theorem tupJ_zero (B : List Nat) (now : List (List Nat)) : tupJ B now 0 = [] := by simp [tupJ]
theorem tupJ_succ {B : List Nat} {now : List (List Nat)} {j : Nat} {t : List Nat} (h : now[j]? = some t) : tupJ B now (j + 1) = tupJ B now j ++ tupM B t B.length := by
  unfold tupJ tupM
  rw [List.take_add_one, h, List.flatMap_append, List.take_length]; simp
theorem tupM_zero (B t : List Nat) : tupM B t 0 = [] := by simp [tupM]
theorem tupM_succ {B t : List Nat} {m y : Nat} (h : B[m]? = some y) : tupM B t (m + 1) = tupM B t m ++ [t ++ [y]] := by
  unfold tupM; rw [List.take_add_one, h, List.map_append]; rfl
theorem tupM_len (B t : List Nat) (m : Nat) : (tupM B t m).length ≤ B.length := by unfold tupM; rw [List.length_map, List.length_take]; omega
theorem tupJ_len {B : List Nat} (hB : B.length ≤ 8) (now : List (List Nat)) (j : Nat) : (tupJ B now j).length ≤ now.length * 8 := by
  have h := flatMap_le (M := 8) (F := fun t => B.map fun y => t ++ [y]) (now.take j) fun a _ => by rw [List.length_map]; exact hB
  have h2 : (now.take j).length ≤ now.length := by rw [List.length_take]; omega
  exact Nat.le_trans h (Nat.mul_le_mul_right _ h2)
theorem tupK_len {l : List Ed} {n : Nat} (hn : n ≤ 8) (cs : List Nat) (i : Nat) (hi : i ≤ cs.length) : (tupK l n cs i).length ≤ 8 ^ i := by
  have h := tup_len (B := ballN l n) (M := 8) (cs.take i) [[]] fun c _ => Nat.le_trans (ballN_len l n c) hn
  rw [List.length_take, Nat.min_eq_left hi] at h
  have h2 : ([[]] : List (List Nat)).length * 8 ^ i = 8 ^ i := by simp
  rw [h2] at h
  exact h
theorem tupK_short {l : List Ed} {n : Nat} {cs : List Nat} : ∀ {i : Nat}, i ≤ cs.length → ∀ t ∈ tupK l n cs i, t.length = i
  | 0, _, t, h => by
    have : t = [] := by simpa [tupK] using h
    subst this; rfl
  | i + 1, hi, t, h => by
    rw [tupK_succ (List.getElem?_eq_getElem (show i < cs.length from hi))] at h
    unfold tupJ at h
    rw [List.take_length] at h
    obtain ⟨u, hu, h2⟩ := List.mem_flatMap.1 h
    obtain ⟨y, _, rfl⟩ := List.mem_map.1 h2
    rw [List.length_append, tupK_short (by omega) u hu]; rfl
theorem tupK_all (l : List Ed) (n : Nat) (cs : List Nat) : tupK l n cs cs.length = cs.foldl (tupF (ballN l n)) [[]] := by unfold tupK; rw [List.take_length]
/-- what is in the list so far -/
def OutK (now : List (List Nat)) (i k : Nat) (M : List (List Nat)) : Prop := Lex M ∧ (∀ y, y ∈ M ↔ ∃ t ∈ now.take i, y = sortN t) ∧ M.length ≤ i
theorem OutK.zero (now : List (List Nat)) (k : Nat) : OutK now 0 k [] := ⟨List.Pairwise.nil, fun y => by simp, Nat.le_refl _⟩
theorem OutK.put {now M Ls : List (List Nat)} {i k : Nat} {t : List Nat} (h : OutK now i k Ls) (ht : now[i]? = some t) (hp : PutL Ls (sortN t) M) : OutK now (i + 1) k M := by
  refine ⟨hp.1, fun y => ?_, by have := hp.2.2; have := h.2.2; omega⟩
  rw [hp.2.1, h.2.1, List.take_add_one, ht]
  constructor
  · rintro (rfl | ⟨t2, h2, rfl⟩)
    · exact ⟨t, by simp, rfl⟩
    · exact ⟨t2, List.mem_append_left _ h2, rfl⟩
  · rintro ⟨t2, h2, rfl⟩
    rcases List.mem_append.1 h2 with h2 | h2
    · exact .inr ⟨t2, h2, rfl⟩
    · have : t2 = t := by simpa using h2
      subst this; exact .inl rfl
theorem OutK.short {now M : List (List Nat)} {i k : Nat} (h : OutK now i k M) (hn : ∀ t ∈ now, t.length = k) : ∀ L ∈ M, L.length = k := fun L hL => by
  obtain ⟨t, ht, rfl⟩ := (h.2.1 L).1 hL
  rw [(sort_perm t).length_eq]
  exact hn t (List.mem_of_mem_take ht)
def CutM (w wx : World) (nv : Value) (l : List Ed) (n c : Nat) (bv : Value) : Prop :=
  (∃ p, nv = .slice (some ⟨p, 0, none⟩) 0 0) ∧ wx.ownsRow w.heap.size 32 1 nv 0 [] ∧ (∃ A cc, bv = .slice A (castL (ballN l n c)).length cc ∧ wx.ownsRow w.heap.size 3 1 (.slice A (castL (ballN l n c)).length cc) (castL (ballN l n c)).length (cellsI (castL (ballN l n c)))) ∧ Below w.heap.size w wx
theorem l2Ball_own (n x : Nat) (v : Value) (l : List Ed) (w : World) (h : Edges w v l) (hl : l.length ≤ 1048576) (hn : n ≤ 8) (hx : x < n) :
    Calls Try.prog 127 #[.agg #[.int .i64 (n : Int), v], .int .i64 (x : Int)] w (RowI w (castL (ballN l n x))) := by
  obtain ⟨A, c, rfl, -⟩ := h.form
  have H := Lib.hid h
  have b0 : Below w.heap.size w (w.alloc (.cells #[.int .i64 (n : Int), .slice A l.length c] 28)) := (Below.refl _ _).alloc (Nat.le_refl _) _
  have HX := Lib.hid (fun L (h : balls.PutI (nw (fun y => adj l (x : Int) y) n) (x : Int) L) => balls.ball_is h ⟨by omega, by omega⟩)
  have hlen := nw_len (fun y => adj l (x : Int) y) n
  clear h hx
  go_enter Try.func127, Try.ntmps127
  go_wp2_with fail
  refine (neigh.l2Neighbors_any n (x : Int) _ l _ (H.out.below b0) hl hn).mono ?_
  rintro e w1 ⟨A1, c1, rfl, o1, b1⟩
  have e1 := btrans b0 b1
  go_wp2_with fail
  refine (balls.l1Put_own _ _ (x : Int) w1 w.heap.size (own_base o1 b0.size) e1.size (by omega) (nw_asc _ _)).mono ?_
  rintro e w2 ⟨L, A2, c2, rfl, hp, r2, b2⟩
  have hL := HX.out L hp
  rw [Int.toNat_natCast, ← ballN_cast] at hL
  subst hL
  go_wp2_with fail
  go_ret
  exact ⟨A2, c2, rfl, r2, btrans e1 b2⟩
set_option maxHeartbeats 16000000 in
set_option maxRecDepth 100000 in
theorem l4Moves_any (n : Nat) (v u : Value) (l : List Ed) (cs : List Nat) (w : World) (h : Edges w v l) (hl : l.length ≤ 1048576) (hg : P2.Good (n : Int) l) (hn : n ≤ 8) (hu : Ints w u (castL cs)) (hcs : cs.length ≤ 3) (hc : ∀ c ∈ cs, c < n) :
    Calls Try.prog 125 #[.agg #[.int .i64 (n : Int), v], u] w (RetL w (movesN (ballB l) n cs)) := by
  obtain ⟨i0, hi, hz0, hz1, hz2⟩ := info_parts infoInt
  obtain ⟨i1, hi1, hy0, hy1, hy2⟩ := info_parts infoRow
  obtain ⟨A, c, rfl, -⟩ := h.form
  obtain ⟨Ac, cc, rfl, hcu⟩ := hu.form
  have H := Lib.hid h
  have HU := Lib.hid hu
  have HC := Lib.hid hcu
  have HG := Lib.hid hg
  have HCN := Lib.hid hc
  have HCL := Lib.hid (castL_len cs)
  have b0 : Below w.heap.size w (w.alloc (.cells #[.int .i64 (n : Int), .slice A l.length c] 28)) := (Below.refl _ _).alloc (Nat.le_refl _) _
  have g0 := Blk.new w 28 #[.int .i64 (n : Int), .slice A l.length c]
  generalize hW0 : w.alloc (.cells #[.int .i64 (n : Int), .slice A l.length c] 28) = w0 at *
  have HW0 := Lib.hid hW0
  clear h hu hcu hg hc
  have hsz0 := b0.size
  have HO0 : Hid (OwnG ((w0.alloc (.cells #[] 3)).alloc (.cells #[.slice (some ⟨w0.heap.size, 0, none⟩) 0 0] 32)) w.heap.size (.slice (some ⟨w0.heap.size + 1, 0, none⟩) 1 1) [.slice (some ⟨w0.heap.size, 0, none⟩) 0 0] (rowsN (tupK l n cs 0))) := by
    have h_ := World.ownsRow_lit (size := 1) (base := w.heap.size) (e := 32) (w0.alloc (.cells #[] 3)) #[.slice (some ⟨w0.heap.size, 0, none⟩) 0 0] 1 (by simp; omega) (by unfold maxLen; omega) rfl
    rw [World.size_alloc] at h_
    refine ⟨h_, ?_, ?_⟩
    · intro i u r hu hr
      cases i with
      | zero => cases hu; cases hr; exact own_base ((own_new0 w0 3 1).alloc _) hsz0
      | succ i => simp at hu
    · intro i j u u' k hij hu hu'
      cases j with
      | zero => omega
      | succ j => simp at hu'
  have HB0 : Hid (Below w.heap.size w ((w0.alloc (.cells #[] 3)).alloc (.cells #[.slice (some ⟨w0.heap.size, 0, none⟩) 0 0] 32))) := (b0.alloc hsz0 _).alloc (by simp; omega) _
  have HG0 := Lib.hid ((g0.alloc (.cells #[] 3)).alloc (.cells #[.slice (some ⟨w0.heap.size, 0, none⟩) 0 0] 32))
  subst hW0
  rw [World.size_alloc] at HO0 HB0 HG0
  clear g0 b0 hsz0
  go_enter Try.func125, Try.ntmps125
  go_wp2_with fail
  go_loopg [5, 6] cs.length (fun g ov iv wr => ∃ (i : Nat) (ow : Value) (us : List Value), ow = ov ∧ i + g = cs.length ∧ iv = .int .i64 (i : Int) ∧ OwnG wr w.heap.size ow us (rowsN (tupK l n cs i)) ∧ Blk wr w.heap.size 28 #[.int .i64 (n : Int), .slice A l.length c] ∧ Below w.heap.size w wr)
  case atStart => exact ⟨0, _, _, rfl, by omega, rfl, HO0.out, HG0.out, HB0.out⟩
  case round =>
    clear HO0 HB0 HG0
    obtain ⟨i, ow, us, rfl, hig, rfl, hG, hgb, hB⟩ := hrel
    obtain ⟨A4, c4, rfl⟩ := own_form hG.1
    cases gk with
    | zero =>
      obtain rfl : i = cs.length := by omega
      have hik9 : ¬ ((cs.length : Int) < ((castL cs).length : Int)) := by rw [HCL.out]; omega
      have HEND : Hid (∀ M, OutK (tupK l n cs cs.length) (tupK l n cs cs.length).length cs.length M → M = movesN (ballB l) n cs) := fun M hM => by
        refine moves_eq (B := ballN l n) (fun c hc y => ballN_mem HG.out (HCN.out c hc)) (fun c hc y hy => ball_lt HG.out (HCN.out c hc) hy) hM.1 fun y => ?_
        rw [hM.2.1, List.take_length, tupK_all]
      have hkl := tupK_len hn (l := l) cs cs.length (Nat.le_refl _)
      have h8 : (8 : Nat) ^ cs.length ≤ 512 := by
        have := Nat.pow_le_pow_right (show 0 < 8 by decide) hcs
        omega
      have HSH := Lib.hid (tupK_short (l := l) (n := n) (cs := cs) (i := cs.length) (Nat.le_refl _))
      have HRL := Lib.hid (rowsN_len (tupK l n cs cs.length))
      generalize tupK l n cs cs.length = NW at *
      obtain ⟨wo, hwo⟩ : ∃ wo, wo = wr := ⟨_, rfl⟩
      subst hwo
      have HGr := Lib.hid hG
      have HB := Lib.hid hB
      have hsz := hB.size
      have HN0 : Hid (OwnG (wo.alloc (.cells #[] 32)) w.heap.size (.slice (some ⟨wo.heap.size, 0, none⟩) 0 0) [] (rowsN [])) :=
        ⟨own_base (own_new0 wo 32 1) hsz, fun i u r hu => by simp at hu, fun i j u u' k _ hu => by simp at hu⟩
      have HB1 : Hid (Below w.heap.size w (wo.alloc (.cells #[] 32))) := hB.alloc hsz _
      have HBo : Hid (Below wo.heap.size wo (wo.alloc (.cells #[] 32))) := (Below.refl _ _).alloc (Nat.le_refl _) _
      clear hG hgb hB
      go_wp2_with fail
      go_loopg [11, 12] NW.length (fun g ov iv wr => ∃ (j : Nat) (ow : Value) (us2 : List Value) (M : List (List Nat)), ow = ov ∧ j + g = NW.length ∧ iv = .int .i64 (j : Int) ∧ Hid (OutK NW j cs.length M) ∧ OwnG wr w.heap.size ow us2 (rowsN M) ∧ Below wo.heap.size wo wr)
      case atStart => exact ⟨0, _, _, [], rfl, by omega, rfl, OutK.zero _ _, HN0.out, HBo.out⟩
      case round =>
        clear HN0 HB1 HBo
        obtain ⟨j, ow, us2, M, rfl, hjg, rfl, hOK, hN, hB1⟩ := hrel
        obtain ⟨A9, c9, rfl⟩ := own_form hN.1
        cases gk with
        | zero =>
          obtain rfl : j = NW.length := by omega
          have HV := Lib.hid (HEND.out M hOK.out)
          have hjl8 : ¬ ((NW.length : Int) < ((rowsN NW).length : Int)) := by rw [HRL.out]; omega
          have HN := Lib.hid hN
          have HB1 := Lib.hid hB1
          clear hN hB1
          go_wp2_with fail
          go_ret
          exact ⟨A9, c9, us2, by rw [← HV.out]; rfl, by rw [← HV.out]; exact HN.out, btrans HB.out HB1.out⟩
        | succ g3 =>
          have hjl : j < NW.length := by omega
          have hjl' : (j : Int) < ((rowsN NW).length : Int) := by rw [HRL.out]; omega
          obtain ⟨t, ht⟩ : ∃ t, NW[j]? = some t := ⟨_, List.getElem?_eq_getElem hjl⟩
          have htl := HSH.out t (List.mem_of_getElem? ht)
          obtain ⟨uu, g, o, hu, hAx, c0, hru⟩ := (gridl.readsG_of_own (HGr.out.below hB1)).row (rowsN_at ht)
          subst hAx
          obtain ⟨Ar, cr, rfl, -⟩ := hru.form
          have HSO := Lib.hid (l4Sorted_any _ t wr hru (by omega))
          have HSL : Hid ((sortN t).length = cs.length) := (sort_perm t).length_eq.trans htl
          have hsh := OutK.short hOK.out HSH.out
          have hMl := hOK.out.2.2
          have HBW := btrans HB.out hB1
          have HPU := Lib.hid (fun (xv : Value) (W : World) (hb : Below wr.heap.size wr W) (hx : W.ownsRow wr.heap.size 3 1 xv (castL (sortN t)).length (cellsI (castL (sortN t)))) =>
            l4Put_own (.slice A9 (rowsN M).length c9) xv us2 M (sortN t) w.heap.size W (hN.below hb) (own_base hx HBW.size) (OwnG.fresh hN hx) (Nat.le_trans HBW.size hb.size) hOK.out.1 (fun L hL => (hsh L hL).trans HSL.out.symm) (by rw [HSL.out]; exact hcs) (by omega))
          have HPT := Lib.hid (fun M' hp => OutK.put (M := M') hOK.out ht hp)
          have HB1 := Lib.hid hB1
          clear ht htl hu hru hN hB1 hsh HBW
          go_wp2_with fail
          refine HSO.out.mono ?_
          rintro e w5 ⟨A5, c5, rfl, o5, b5⟩
          have HP5 := Lib.hid (HPU.out _ w5 b5 o5)
          have HB5 := Lib.hid (btrans HB1.out b5)
          clear o5 b5 c0
          go_wp2_with fail
          refine HP5.out.mono ?_
          rintro e w6 ⟨M6, A6, c6, us6, rfl, hp6, o6, b6⟩
          have HO6 := Lib.hid o6
          have HB6 := Lib.hid (btrans HB5.out b6)
          have HK6 := Lib.hid (HPT.out M6 hp6)
          clear o6 b6 hp6
          go_wp2_with fail
          go_roundg g3
          case measure => omega
          case rel => exact ⟨j + 1, _, us6, M6, rfl, by omega, by go_num, HK6.out, HO6.out, HB6.out⟩
    | succ gg =>
      have hik : i < cs.length := by omega
      have hik' : (i : Int) < ((castL cs).length : Int) := by rw [HCL.out]; omega
      obtain ⟨x, hx⟩ : ∃ x, cs[i]? = some x := ⟨_, List.getElem?_eq_getElem hik⟩
      have hxn := HCN.out x (List.mem_of_getElem? hx)
      obtain ⟨gc, oc, rfl, q0⟩ := HC.out i _ (castL_at hx)
      have q1 := nearv.cell_keep q0 hB
      obtain ⟨p0, p1, -, -⟩ := hgb.two
      have HGr := Lib.hid hG
      have HGB := Lib.hid hgb
      have HB := Lib.hid hB
      have HX := Lib.hid hx
      obtain ⟨wo, hwo⟩ : ∃ wo, wo = wr := ⟨_, rfl⟩
      subst hwo
      have HBA := Lib.hid (fun (W : World) (hb : Below wo.heap.size wo W) => l2Ball_own n x _ l W ((H.out.below hB).below hb) hl hn hxn)
      have HSK := Lib.hid (fun (W : World) (hb : Below wo.heap.size wo W) => (⟨nearv.cell_keep p0 hb, nearv.cell_keep p1 hb, nearv.cell_keep q1 hb⟩ : W.cell? ⟨w.heap.size, 0, none⟩ = some (.int .i64 (n : Int)) ∧ W.cell? ⟨w.heap.size, 1, none⟩ = some (.slice A l.length c) ∧ W.cell? ⟨gc, oc + i, none⟩ = some (.int .i64 (x : Int))))
      clear hG hgb hB hx q0
      go_wp2_with fail
      go_cut [7, 8] (fun a b wx => CutM wo wx a l n x b)
      case first =>
        go_region_held3 (fun w' => w'.cell? ⟨w.heap.size, 0, none⟩ = some (.int .i64 (n : Int)) ∧ w'.cell? ⟨w.heap.size, 1, none⟩ = some (.slice A l.length c) ∧ w'.cell? ⟨gc, oc + i, none⟩ = some (.int .i64 (x : Int))) (first | go_keep | exact HSK.out _ d3 | exact HSK.out _ (d3.alloc d3.size _)) (first
          | (go_at_call 127; have D2 : Below wo.heap.size wo wo.drew := (Below.refl _ _).drew; (with_reducible refine (HBA.out wo.drew D2).mono ?_); rintro e w3 ⟨A3, c3, rfl, r3, b3⟩; have d3 : Below wo.heap.size wo w3 := btrans D2 b3; have r4 := own_base r3 D2.size)
          | (go_at_call 127; have D2 : Below wo.heap.size wo (wo.alloc (.cells #[] 32)).drew := ((Below.refl _ _).alloc (Nat.le_refl _) _).drew; (with_reducible refine (HBA.out (wo.alloc (.cells #[] 32)).drew D2).mono ?_); rintro e w3 ⟨A3, c3, rfl, r3, b3⟩; have d3 : Below wo.heap.size wo w3 := btrans D2 b3; have r4 := own_base r3 D2.size; have n3 : w3.ownsRow wo.heap.size 32 1 (.slice (some ⟨wo.heap.size, 0, none⟩) 0 0) 0 [] := own_below (own_new0 wo.drew 32 1) b3))
        all_goals (go_wp2_with fail; go_meet)
        all_goals (first
          | exact ⟨⟨_, rfl⟩, own_base (own_new0 w3 32 1) d3.size, ⟨_, _, rfl, r4.alloc _⟩, d3.alloc d3.size _⟩
          | exact ⟨⟨_, rfl⟩, n3, ⟨_, _, rfl, r4⟩, d3⟩)
      case rest =>
        obtain ⟨⟨p, rfl⟩, hno, ⟨A3, c3, rfl, hbo⟩, hB3⟩ := hcut
        have HKS := Lib.hid (tupK_succ (l := l) (n := n) HX.out)
        have hkl := tupK_len hn (l := l) cs i (by omega)
        have h8 : (8 : Nat) ^ i ≤ 64 := by
          have := Nat.pow_le_pow_right (show 0 < 8 by decide) (show i ≤ 2 by omega)
          omega
        have HSH := Lib.hid (tupK_short (l := l) (n := n) (cs := cs) (i := i) (by omega))
        have hbl := Nat.le_trans (ballN_len l n x) hn
        have HRL := Lib.hid (rowsN_len (tupK l n cs i))
        have HBLL := Lib.hid (castL_len (ballN l n x))
        have hsz := HB.out.size
        have HN0 : Hid (OwnG wc wo.heap.size (.slice (some ⟨p, 0, none⟩) 0 0) [] (rowsN (tupJ (ballN l n x) (tupK l n cs i) 0))) := by
          rw [tupJ_zero]
          exact ⟨hno, fun i u r hu => by simp at hu, fun i j u u' k _ hu => by simp at hu⟩
        have HBO := Lib.hid hbo
        have HB3 := Lib.hid hB3
        clear hno hbo hB3 p0 p1 q1
        generalize ballN l n x = BL at *
        generalize tupK l n cs i = NW at *
        go_wp2_with fail
        go_loopg [7, 9] NW.length (fun g nv jv wr => ∃ (j : Nat) (nw9 : Value) (us2 : List Value), nw9 = nv ∧ j + g = NW.length ∧ jv = .int .i64 (j : Int) ∧ OwnG wr wo.heap.size nw9 us2 (rowsN (tupJ BL NW j)) ∧ wr.ownsRow wo.heap.size 3 1 (.slice A3 (castL BL).length c3) (castL BL).length (cellsI (castL BL)) ∧ Below wo.heap.size wo wr)
        case atStart => exact ⟨0, _, _, rfl, by omega, rfl, HN0.out, HBO.out, HB3.out⟩
        case round =>
          clear HN0 HBO HB3
          obtain ⟨j, nw9, us2, rfl, hjg, rfl, hN, hbo, hB1⟩ := hrel
          obtain ⟨A9, c9, rfl⟩ := own_form hN.1
          cases gk with
          | zero =>
            obtain rfl : j = NW.length := by omega
            have HN5 := Lib.hid (hN.base hsz)
            have HB5 := Lib.hid (btrans HB.out hB1)
            have HK5 := Lib.hid (HGB.out.below hB1 HGB.out.lt)
            have hjl8 : ¬ ((NW.length : Int) < ((rowsN NW).length : Int)) := by rw [HRL.out]; omega
            clear hN hbo hB1
            go_wp2_with fail
            go_roundg gg
            case measure => omega
            case rel => exact ⟨i + 1, _, us2, rfl, by omega, by go_num, by rw [HKS.out]; exact HN5.out, HK5.out, HB5.out⟩
          | succ g3 =>
            have hjl : j < NW.length := by omega
            have hjl' : (j : Int) < ((rowsN NW).length : Int) := by rw [HRL.out]; omega
            obtain ⟨t, ht⟩ : ∃ t, NW[j]? = some t := ⟨_, List.getElem?_eq_getElem hjl⟩
            have htl := HSH.out t (List.mem_of_getElem? ht)
            have HJS := Lib.hid (tupJ_succ (B := BL) ht)
            have hJL := tupJ_len hbl NW j
            have hct : (castL t).length ≤ 3 := by rw [castL_len, htl]; omega
            have HT := Lib.hid ht
            have HN2 : Hid (OwnG wr wo.heap.size (.slice A9 (rowsN (tupJ BL NW j)).length c9) us2 (rowsN (tupJ BL NW j ++ tupM BL t 0))) := by
              show OwnG _ _ _ _ _
              rw [tupM_zero, List.append_nil]; exact hN
            have HBO := Lib.hid hbo
            have HB1 := Lib.hid hB1
            clear htl ht hN hbo hB1
            generalize hPP : tupJ BL NW j = PP at *
            have HPP := Lib.hid hPP
            clear hPP
            go_wp2_with fail
            go_loopg [7, 10] BL.length (fun g nv mv wr => ∃ (m : Nat) (nw9 : Value) (us2 : List Value), nw9 = nv ∧ m + g = BL.length ∧ mv = .int .i64 (m : Int) ∧ OwnG wr wo.heap.size nw9 us2 (rowsN (PP ++ tupM BL t m)) ∧ wr.ownsRow wo.heap.size 3 1 (.slice A3 (castL BL).length c3) (castL BL).length (cellsI (castL BL)) ∧ Below wo.heap.size wo wr)
            case atStart => exact ⟨0, _, us2, rfl, by omega, rfl, HN2.out, HBO.out, HB1.out⟩
            case round =>
              clear HN2 HBO HB1
              obtain ⟨m, nw9, us2, rfl, hmg, rfl, hN, hbo, hB1⟩ := hrel
              obtain ⟨A9, c9, rfl⟩ := own_form hN.1
              cases gk with
              | zero =>
                obtain rfl : m = BL.length := by omega
                have hml8 : ¬ ((BL.length : Int) < ((castL BL).length : Int)) := by rw [HBLL.out]; omega
                have HN := Lib.hid hN
                have HBO := Lib.hid hbo
                have HB1 := Lib.hid hB1
                clear hN hbo hB1
                go_wp2_with fail
                go_roundg g3
                case measure => omega
                case rel => exact ⟨j + 1, _, us2, rfl, by omega, by go_num, by rw [HJS.out]; exact HN.out, HBO.out, HB1.out⟩
              | succ g4 =>
                have hml : m < BL.length := by omega
                have hml' : (m : Int) < ((castL BL).length : Int) := by rw [HBLL.out]; omega
                obtain ⟨y, hy⟩ : ∃ y, BL[m]? = some y := ⟨_, List.getElem?_eq_getElem hml⟩
                have hyc : (cellsI (castL BL))[m]? = some (.int .i64 (y : Int)) := by simp [cellsI, castL, hy]
                obtain ⟨gb, rfl, s1, -, -⟩ := own_at hbo hyc
                obtain ⟨uu, g, o, hu, hAx, c0, hru⟩ := (gridl.readsG_of_own HGr.out).row (rowsN_at HT.out)
                subst hAx
                obtain ⟨Ar, cr, rfl, -⟩ := hru.form
                have s0 := nearv.cell_keep c0 hB1
                have HOW := Lib.hid (fun (W : World) (hb : Below wr.heap.size wr W) => times.l1Own_any _ (castL t) W ((hru.below hB1).below hb) (by omega))
                have HSK := Lib.hid (fun (W : World) (hb : Below wr.heap.size wr W) => (⟨nearv.cell_keep s0 hb, nearv.cell_keep s1 hb⟩ : W.cell? ⟨g, o + j, none⟩ = some (.slice Ar (castL t).length cr) ∧ W.cell? ⟨gb, m, none⟩ = some (.int .i64 (y : Int))))
                have HC0 := Lib.hid c0
                have HYC := Lib.hid hyc
                have HMS := Lib.hid (tupM_succ (t := t) hy)
                have hpl := tupM_len BL t m
                have hrows : (rowsN (PP ++ tupM BL t m)).length ≤ 2000 := by rw [rowsN_len, List.length_append]; omega
                have HRA := Lib.hid (rowsN_app (PP ++ tupM BL t m) [t ++ [y]])
                have HRR : Hid (cellsI (castL t) ++ cellsI [(y : Int)] = cellsI (castL (t ++ [y])) ∧ (castL (t ++ [y])).length = (castL t).length + 1) := ⟨by simp [cellsI, castL], by simp [castL]⟩
                have hul : us2.length ≤ 2000 := (hN.len ▸ hrows)
                have HN := Lib.hid hN
                have HBO := Lib.hid hbo
                have HB1 := Lib.hid hB1
                have hszo := hB1.size
                generalize rowsN (PP ++ tupM BL t m) = rows at *
                clear hN hbo hB1 hru hu c0 hyc hy
                go_wp2_with fail
                go_region_held3 (fun w' => w'.cell? ⟨g, o + j, none⟩ = some (.slice Ar (castL t).length cr) ∧ w'.cell? ⟨gb, m, none⟩ = some (.int .i64 (y : Int))) (first | go_keep | exact s7 | exact HSK.out _ d6 | exact HSK.out _ (d6.alloc d6.size _) | exact HSK.out _ d5 | exact HSK.out _ (d5.alloc d5.size _)) (first
                  | (go_at_call 117; have D2 : Below wr.heap.size wr wr.drew := (Below.refl _ _).drew; (with_reducible refine (HOW.out wr.drew D2).mono ?_); rintro e w5 ⟨A6, c6, rfl, o5, b5⟩; have d5 : Below wr.heap.size wr w5 := btrans D2 b5; have o6 := own_base o5 D2.size)
                  | (go_at_call 117; have D2 : Below wr.heap.size wr (wr.alloc (.cells #[.int .i64 (y : Int)] 3)).drew := ((Below.refl _ _).alloc (Nat.le_refl _) _).drew; (with_reducible refine (HOW.out (wr.alloc (.cells #[.int .i64 (y : Int)] 3)).drew D2).mono ?_); rintro e w5 ⟨A6, c6, rfl, o5, b5⟩; have d5 : Below wr.heap.size wr w5 := btrans D2 b5; have o6 := own_base o5 D2.size; have y5 : Blk w5 wr.heap.size 3 #[.int .i64 (y : Int)] := (show Blk (wr.alloc (.cells #[.int .i64 (y : Int)] 3)).drew wr.heap.size 3 #[.int .i64 (y : Int)] from (Blk.new wr 3 #[.int .i64 (y : Int)]).drewN 1).below b5 (by simp))
                  | (refine step_append_any _ rfl (.tmp 45) (.tmp 50) 32 rfl wr.heap.size 3 i0 (.int .i64 0) 1 8 Try.underlying32 hi hz0 hz1 hz2 rfl (by decide) (.slice A6 (castL t).length c6) (castL t).length (cellsI (castL t)) rfl o6 (.slice (some ⟨wr.heap.size, 0, none⟩) 1 1) 1 (cellsI [(y : Int)]) rfl (one_readsV y5) rfl (oneI _) (by unfold maxLen; omega) (by omega) d5.size ?_; intro v2 w6 o7 gr6; have d6 := d5.grown gr6 d5.size (fun q hq => (o6.lt q hq).1); rw [HRR.out.1] at o7; obtain ⟨A7, c7, rfl⟩ := own_form o7; have hown6 := (HN.out.below d6).1)
                  | (refine step_append_any _ rfl (.tmp 45) (.tmp 50) 32 rfl wr.heap.size 3 i0 (.int .i64 0) 1 8 Try.underlying32 hi hz0 hz1 hz2 rfl (by decide) (.slice A6 (castL t).length c6) (castL t).length (cellsI (castL t)) rfl (o6.alloc _) (.slice (some ⟨w5.heap.size, 0, none⟩) 1 1) 1 (cellsI [(y : Int)]) rfl (one_readsV (Blk.new w5 _ _)) rfl (oneI _) (by unfold maxLen; omega) (by omega) (by have := d5.size; simp; omega) ?_; intro v2 w6 o7 gr6; have d6 := (d5.alloc d5.size _).grown gr6 (by have := d5.size; simp; omega) (fun q hq => (o6.lt q hq).1); rw [HRR.out.1] at o7; obtain ⟨A7, c7, rfl⟩ := own_form o7; have hown6 := (HN.out.below d6).1)
                  | (refine step_append_any _ rfl (.tmp 40) (.tmp 52) 42 rfl wo.heap.size 32 i1 (.slice none 0 0) 1 24 Try.underlying42 hi1 hy0 hy1 hy2 rfl (by decide) (.slice A9 rows.length c9) rows.length us2 rfl (hown6.alloc _) (.slice (some ⟨w6.heap.size, 0, none⟩) 1 1) 1 [.slice A7 ((castL t).length + 1) c7] rfl (one_readsV (Blk.new w6 _ _)) rfl (fun x hx => by simp at hx; subst hx; rfl) (by unfold maxLen; omega) (by omega) (by have := d6.size; simp; omega) ?_; intro v6 w7 hown7 hgrow7; have d7 := ((btrans HB1.out d6).alloc (by have := d6.size; omega) (.cells #[.slice A7 ((castL t).length + 1) c7] 32)).grown hgrow7 (by have := d6.size; simp; omega) (fun q e => (hown6.lt q e).1); have hbo7 := own_kept ((own_below HBO.out d6).alloc (.cells #[.slice A7 ((castL t).length + 1) c7] 32)) (hown6.alloc _) (by decide) hgrow7; have s7 : w7.cell? ⟨g, o + j, none⟩ = some (.slice Ar (castL t).length cr) ∧ w7.cell? ⟨gb, m, none⟩ = some (.int .i64 (y : Int)) := ⟨nearv.cell_keep HC0.out d7, own_cell hbo7 HYC.out⟩))
                all_goals
                  have HG7 := Lib.hid (OwnG.push (r := castL (t ++ [y])) HN.out d6 hszo (by rw [HRR.out.2]; exact o7) hown7 rfl hgrow7)
                  go_wp2_with fail
                  go_roundg g4
                  case measure => omega
                  case rel => exact ⟨m + 1, _, _, rfl, by omega, by go_num, by rw [HMS.out, ← List.append_assoc, HRA.out]; exact HG7.out, hbo7, d7⟩
end Go.Proofs.Ytjcnngnahijceaa.lists
