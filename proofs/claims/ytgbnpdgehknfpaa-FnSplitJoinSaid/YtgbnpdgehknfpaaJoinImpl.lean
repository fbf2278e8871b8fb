/- The contract of the program's JoinStrings. -/
import Derived.Test.YtgbnpdgehknfpaaJoinRun
import Derived.Deep.LoopGhost
import Derived.Laws.BytesArg
namespace Go.Proofs.Ytgbnpdgehknfpaa.joinimpl
open Go.RowKit P1 P4 marks stands join

theorem infoByte : (Try.prog.info? 5).map (fun i => (i.zero, i.size, i.bytes)) = some (some (.int .u8 0), 1, 1) := by kernel_rfl
/-- bytes as cells -/
def bcells (l : List UInt8) : List Value := l.map fun b => .int .u8 (b.toNat : Int)
theorem bcells_app (a b : List UInt8) : bcells (a ++ b) = bcells a ++ bcells b := by simp [bcells]
theorem bcells_len (a : List UInt8) : (bcells a).length = a.length := by simp [bcells]
/-- a slice of the call's own that holds bytes -/
def Bytes (B : Nat) (w : World) (v : Value) (l : List UInt8) : Prop := w.ownsRow B 5 1 v l.length (bcells l)
theorem Bytes.conv {B : Nat} {w : World} {v : Value} {l : List UInt8} (h : Bytes B w v l) : (convert 22 9 v).run Try.prog w = .ok (.string ⟨l.toArray⟩) w := by
  rcases h.2 with ⟨rfl, h0⟩ | ⟨g, cap, cur, rfl, _, _, _⟩
  · obtain rfl : l = [] := List.length_eq_zero_iff.1 h0
    exact run_convert_bytes_nil w 22 5 Try.underlying22 Try.underlying5 0 0 9 Try.underlying9
  · refine run_convert_bytes_back w 22 9 5 ⟨g, 0, none⟩ cap l Try.underlying22 Try.underlying5 Try.underlying9 (fun j hj => ?_)
    have := h.cells (g := g) rfl j (.int .u8 (l[j].toNat : Int)) (by simp [bcells, hj])
    exact this

theorem Bytes.len {B : Nat} {w : World} {v : Value} {l : List UInt8} (h : Bytes B w v l) (ty : TypeId) : (Builtin.len_ #[22] ty #[v]).run Try.prog w = .ok (.int .i64 (l.length : Int)) w := by
  rcases h.2 with ⟨rfl, h0⟩ | ⟨g, cap, cur, rfl, _, _, _⟩
  · rw [run_len_slice w _ _ _ _ _ Try.underlying22, h0]; rfl
  · rw [run_len_slice w _ _ _ _ _ Try.underlying22]; rfl
theorem Bytes.step {B : Nat} {w wr w1 : World} {v v1 : Value} {l : List UInt8} {b : UInt8} {o : Obj} (hrow : Bytes B wr v l) (hB : Below B w wr) (hs : B ≤ wr.heap.size)
    (hown : w1.ownsRow B 5 1 v1 (l.length + 1) (bcells l ++ [.int .u8 (b.toNat : Int)])) (hgrow : (wr.alloc o).grownBy w1 v.ownBlock) :
    Bytes B w1 v1 (l ++ [b]) ∧ Below B w w1 := by
  refine ⟨?_, (hB.alloc hs _).grown hgrow (by simp; omega) (fun q hq => (hrow.lt q hq).1)⟩
  unfold Bytes
  rw [bcells_app, List.length_append]
  exact hown
theorem ok_over {l : List ByteArray} {c : UInt8} {k : Nat} {x : ByteArray} (h : l[k]? = some x) (hp : 4000 < (joinN l c k ++ if k = 0 then [] else [c]).length + x.size) : okJoin l c = false := by
  refine ok_long (k := k + 1) (List.getElem?_eq_some_iff.1 h).1 ?_
  rw [joinN_succ h, List.length_append, Array.length_toList]
  exact hp

theorem pre_full {l : List ByteArray} {c : UInt8} {k j : Nat} {x : ByteArray} {pre : List UInt8} (h : l[k]? = some x) (hp : pre = joinN l c k ++ if k = 0 then [] else [c]) (hj : j = x.size) :
    pre ++ x.data.toList.take j = joinN l c (k + 1) := by
  rw [joinN_succ h, hp, List.take_of_length_le (by rw [Array.length_toList, hj]; exact Nat.le_refl _)]
theorem nosep_full {l : List ByteArray} {c : UInt8} {k j : Nat} {x : ByteArray} (h : l[k]? = some x) (hn : NoSep l c k) (hj : j = x.size) (hc : c ∉ x.data.toList.take j) : NoSep l c (k + 1) := by
  rw [List.take_of_length_le (by rw [Array.length_toList, hj]; exact Nat.le_refl _)] at hc
  exact hn.succ h hc
theorem take_pre (pre : List UInt8) (x : ByteArray) (j : Nat) (h : j < x.size) : (pre ++ List.take j x.data.toList) ++ [x[j]] = pre ++ List.take (j + 1) x.data.toList := by
  rw [take_snoc x j h, List.append_assoc]
set_option maxHeartbeats 1000000 in
theorem implJoin_any (v : Value) (l : List ByteArray) (s : ByteArray) (c : UInt8) (w : World) (h : Txt w v l) (hs : s.data.toList = [c]) (h1 : 1 ≤ l.length) (hl : l.length ≤ 1048576) (ht : total l ≤ 1048576) :
    Calls Try.prog 12 #[v, .string s] w fun e w' => e = .returned (.tuple #[.string ⟨(outJoin l c).toArray⟩, .bool (okJoin l c)]) ∧ Below w.heap.size w w' := by
  obtain rfl : s = ⟨#[c]⟩ := by apply ByteArray.ext; apply Array.toList_inj.1; rw [hs]
  clear hs
  obtain ⟨A, cp, rfl, hx⟩ := h
  obtain ⟨g, o, rfl, hc⟩ := hx (by omega)
  clear hx
  have hl1 : ((l.length : Int) == 0) = false := by rw [beq_eq_false_iff_ne]; omega
  go_enter Try.func12, Try.ntmps12
  obtain ⟨i0, hi, hz0, hz1, hz2⟩ := info_parts infoByte
  go_wp2_with fail
  go_step3
  go_wp2_with fail
  go_step3
  go_wp2_with fail
  go_loopg [6, 7, 21] l.length (fun g s6 s7 s21 wx => ∃ (k : Nat), k + g = l.length ∧ s21 = .int .i64 (k : Int) ∧ s7 = .bool true ∧ Bytes w.heap.size wx s6 (joinN l c k) ∧ (joinN l c k).length ≤ 4000 ∧ Hid (NoSep l c k) ∧ Below w.heap.size w wx)
  case atStart => exact ⟨0, by omega, rfl, rfl, World.ownsRow_nil _ _ _ _, by simp [joinN], NoSep.zero l c, Below.refl _ _⟩
  case round =>
    obtain ⟨k, hkg, rfl, rfl, hrow, hlen, hcl, hB⟩ := hrel
    cases gk with
    | zero =>
      have hkz : ¬ ((k : Int) < (l.length : Int)) := by omega
      obtain rfl : k = l.length := by omega
      have HO := Lib.hid (ok_all hcl.out hlen)
      have hcv := hrow.conv
      clear hc hrow
      generalize hy : (⟨(joinN l c l.length).toArray⟩ : ByteArray) = y at *
      have HYV := Lib.hid hy
      clear hy
      go_wp2_with fail
      go_ret2
      exact ⟨by rw [out_yes HO.out, HO.out, HYV.out]; rfl, hB⟩
    | succ n =>
      have hkz : (k : Int) < (l.length : Int) := by omega
      obtain ⟨x, hx⟩ : ∃ x, l[k]? = some x := ⟨_, List.getElem?_eq_getElem (by omega)⟩
      have hcell0 := hc k x hx
      have hcell : wr.cell? ⟨g, o + k, none⟩ = some (.string x) := (hB.cell (p := ⟨g, o + k, none⟩) (World.block_lt_of_cell? w (a := ⟨g, o + k, none⟩) hcell0)).trans hcell0
      clear hcell0
      have HX := Lib.hid hx
      have HC := Lib.hid hc
      have hxs : x.size ≤ 1048576 := by have := total_at hx; omega
      obtain ⟨pre, hpre⟩ : ∃ pre, pre = joinN l c k ++ if k = 0 then [] else [c] := ⟨_, rfl⟩
      have hple : pre.length ≤ 4001 := by
        rw [hpre, List.length_append]
        have : (if k = 0 then [] else [c] : List UInt8).length ≤ 1 := by split <;> simp
        omega
      have HPRE := Lib.hid hpre
      have HOV : Hid (4000 < pre.length + x.size → okJoin l c = false) := fun h => ok_over (k := k) hx (by rw [← hpre]; exact h)
      clear hx hc
      have hbase := hB.size
      by_cases hk0 : k = 0
      · have hpe : joinN l c k = pre := by rw [hpre, if_pos hk0, List.append_nil]
        have hk0' : ¬ (0 < k) := by omega
        rw [hpe] at hrow
        clear hk0 hpre hpe
        have hL1 := hrow.len
        by_cases hlong : pre.length + x.size ≤ 4000
        · have hlong' : (pre.length : Int) + (x.size : Int) ≤ 4000 := by omega
          go_wp2_with fail
          go_loopg [6, 7, 41] x.size (fun g2 t6 t7 t41 wx => ∃ (j : Nat), j + g2 = x.size ∧ t41 = .int .i64 (j : Int) ∧ t7 = .bool true ∧ Bytes w.heap.size wx t6 (pre ++ x.data.toList.take j) ∧ Hid (c ∉ x.data.toList.take j) ∧ Below w.heap.size w wx)
          case atStart => exact ⟨0, by omega, rfl, rfl, by simpa using hrow, by show _ ∉ _; simp, hB⟩
          case round =>
            obtain ⟨j, hjg, rfl, rfl, hrw, hnin, hbw⟩ := hrel
            cases gk with
            | zero =>
              have hjz : ¬ ((j : Int) < (x.size : Int)) := by omega
              have hjx : j = x.size := by omega
              have HJ := Lib.hid (pre_full HX.out HPRE.out hjx)
              have HN := Lib.hid (nosep_full HX.out hcl.out hjx hnin.out)
              have HJL : Hid ((joinN l c (k + 1)).length ≤ 4000) := by
                show _ ≤ _
                rw [← HJ.out]
                simp only [List.length_append, List.length_take, Array.length_toList]
                have : x.size = x.data.size := rfl
                omega
              rw [HJ.out] at hrw
              go_wp2_with fail
              go_roundg n
              case measure => omega
              case rel => exact ⟨k + 1, by omega, by first | rfl | simp, rfl, hrw, HJL.out, HN, hbw⟩
            | succ g2 =>
              have hjz : (j : Int) < (x.size : Int) := by omega
              have hjn : j < x.size := by omega
              have hbase2 := hbw.size
              by_cases hc : x[j] = c
              · have HO := Lib.hid (ok_mem HX.out (show c ∈ x.data.toList by rw [← hc]; exact getElem_mem_list x j hjn))
                have d1 : ((x[j].toNat : Int) == (((⟨#[c]⟩ : ByteArray)[0]'(by show 0 < 1; decide)).toNat : Int)) = true := by rw [hc]; exact beq_self_eq_true _
                have d2 : (x[j].toNat : Int) = (((⟨#[c]⟩ : ByteArray)[0]'(by show 0 < 1; decide)).toNat : Int) := by rw [hc]; rfl
                clear hc
                go_wp2_with fail
                go_quiet (fail)
                go_wp2_with fail
                have hbn : Below w.heap.size w (wr.drewN nq) := below_drewN hbw nq
                try rw [Exit.noGoto_ret]
                go_ret2
                exact ⟨by rw [out_no HO.out, HO.out]; rfl, hbn⟩
              · have HT := Lib.hid (notin_take x j c hjn hnin.out hc)
                have hne : ¬ ((x[j].toNat : Int) = (c.toNat : Int)) := fun e => hc (UInt8.toNat_inj.1 (by omega))
                have d1 : ((x[j].toNat : Int) == (((⟨#[c]⟩ : ByteArray)[0]'(by show 0 < 1; decide)).toNat : Int)) = false := by rw [beq_eq_false_iff_ne]; exact hne
                clear hc hne
                go_wp2_with fail
                go_quiet (fail)
                have hrn : Bytes w.heap.size (wr.drewN nq) u6 (pre ++ List.take j x.data.toList) := hrw
                have hbn : Below w.heap.size w (wr.drewN nq) := below_drewN hbw nq
                have hbase3 : w.heap.size ≤ (wr.drewN nq).heap.size := hbn.size
                have hlt : (pre ++ List.take j x.data.toList).length ≤ 4000 := by
                  simp only [List.length_append, List.length_take, Array.length_toList]
                  have : x.size = x.data.size := rfl
                  omega
                have HTK := Lib.hid (take_pre pre x j hjn)
                generalize hpj : pre ++ List.take j x.data.toList = pj at *
                clear hpj
                go_wp2_with (first
                  | (at_builtin; refine wpList_append_own _ rfl _ _ 22 rfl w.heap.size 5 i0 (.int .u8 0) 1 1 Try.underlying22 hi hz0 hz1 hz2 rfl (by decide) _ _ _ rfl (hrn.alloc _) ⟨(wr.drewN nq).heap.size, 0, none⟩ 1 1 [.int .u8 (x[j].toNat : Int)] rfl rfl (cell_one_new _ _ _) (fun x hx => by simp at hx; subst hx; rfl) (by unfold maxLen; omega) (by omega) (by simp; omega) ?_; intro v3 w3 hown3 hgrow3 hnil3; obtain ⟨hrow3, hB3⟩ := hrn.step hbn hbase3 hown3 hgrow3; rw [HTK.out] at hrow3; clear hown3 hgrow3 hnil3))
                go_roundg g2
                case measure => omega
                case rel => exact ⟨j + 1, by omega, by first | rfl | simp, rfl, hrow3, HT, hB3⟩
        · have hlong' : ¬ ((pre.length : Int) + (x.size : Int) ≤ 4000) := by omega
          have hlong2 : 4000 < (pre.length : Int) + (x.size : Int) := by omega
          have HO := Lib.hid (HOV.out (by omega))
          go_wp2_with fail
          try rw [Exit.noGoto_ret]
          go_ret2
          exact ⟨by rw [out_no HO.out, HO.out]; rfl, hB⟩
      · have HPE := Lib.hid (show joinN l c k ++ [c] = pre by rw [hpre, if_neg hk0])
        have hk0' : 0 < k := by omega
        clear hk0 hpre
        by_cases hlong : pre.length + x.size ≤ 4000
        · have hlong' : (pre.length : Int) + (x.size : Int) ≤ 4000 := by omega
          go_wp2_with (first
            | (at_builtin; refine wpList_append_own _ rfl _ _ 22 rfl w.heap.size 5 i0 (.int .u8 0) 1 1 Try.underlying22 hi hz0 hz1 hz2 rfl (by decide) _ _ _ rfl (hrow.alloc _) ⟨wr.heap.size, 0, none⟩ 1 1 [.int .u8 (c.toNat : Int)] rfl rfl (cell_one_new _ _ _) (fun x hx => by simp at hx; subst hx; rfl) (by unfold maxLen; omega) (by omega) (by simp; omega) ?_; intro v1 w1 hown1 hgrow1 hnil1; obtain ⟨hrow1, hB1⟩ := hrow.step hB hbase hown1 hgrow1; rw [HPE.out] at hrow1; have hL1 := hrow1.len; clear hown1 hgrow1 hnil1))
          go_loopg [6, 7, 41] x.size (fun g2 t6 t7 t41 wx => ∃ (j : Nat), j + g2 = x.size ∧ t41 = .int .i64 (j : Int) ∧ t7 = .bool true ∧ Bytes w.heap.size wx t6 (pre ++ x.data.toList.take j) ∧ Hid (c ∉ x.data.toList.take j) ∧ Below w.heap.size w wx)
          case atStart => exact ⟨0, by omega, rfl, rfl, by simpa using hrow1, by show _ ∉ _; simp, hB1⟩
          case round =>
            obtain ⟨j, hjg, rfl, rfl, hrw, hnin, hbw⟩ := hrel
            cases gk with
            | zero =>
              have hjz : ¬ ((j : Int) < (x.size : Int)) := by omega
              have hjx : j = x.size := by omega
              have HJ := Lib.hid (pre_full HX.out HPRE.out hjx)
              have HN := Lib.hid (nosep_full HX.out hcl.out hjx hnin.out)
              have HJL : Hid ((joinN l c (k + 1)).length ≤ 4000) := by
                show _ ≤ _
                rw [← HJ.out]
                simp only [List.length_append, List.length_take, Array.length_toList]
                have : x.size = x.data.size := rfl
                omega
              rw [HJ.out] at hrw
              go_wp2_with fail
              go_roundg n
              case measure => omega
              case rel => exact ⟨k + 1, by omega, by first | rfl | simp, rfl, hrw, HJL.out, HN, hbw⟩
            | succ g2 =>
              have hjz : (j : Int) < (x.size : Int) := by omega
              have hjn : j < x.size := by omega
              have hbase2 := hbw.size
              by_cases hc : x[j] = c
              · have HO := Lib.hid (ok_mem HX.out (show c ∈ x.data.toList by rw [← hc]; exact getElem_mem_list x j hjn))
                have d1 : ((x[j].toNat : Int) == (((⟨#[c]⟩ : ByteArray)[0]'(by show 0 < 1; decide)).toNat : Int)) = true := by rw [hc]; exact beq_self_eq_true _
                have d2 : (x[j].toNat : Int) = (((⟨#[c]⟩ : ByteArray)[0]'(by show 0 < 1; decide)).toNat : Int) := by rw [hc]; rfl
                clear hc
                go_wp2_with fail
                go_quiet (fail)
                go_wp2_with fail
                have hbn : Below w.heap.size w (wr.drewN nq) := below_drewN hbw nq
                try rw [Exit.noGoto_ret]
                go_ret2
                exact ⟨by rw [out_no HO.out, HO.out]; rfl, hbn⟩
              · have HT := Lib.hid (notin_take x j c hjn hnin.out hc)
                have hne : ¬ ((x[j].toNat : Int) = (c.toNat : Int)) := fun e => hc (UInt8.toNat_inj.1 (by omega))
                have d1 : ((x[j].toNat : Int) == (((⟨#[c]⟩ : ByteArray)[0]'(by show 0 < 1; decide)).toNat : Int)) = false := by rw [beq_eq_false_iff_ne]; exact hne
                clear hc hne
                go_wp2_with fail
                go_quiet (fail)
                have hrn : Bytes w.heap.size (wr.drewN nq) u6 (pre ++ List.take j x.data.toList) := hrw
                have hbn : Below w.heap.size w (wr.drewN nq) := below_drewN hbw nq
                have hbase3 : w.heap.size ≤ (wr.drewN nq).heap.size := hbn.size
                have hlt : (pre ++ List.take j x.data.toList).length ≤ 4000 := by
                  simp only [List.length_append, List.length_take, Array.length_toList]
                  have : x.size = x.data.size := rfl
                  omega
                have HTK := Lib.hid (take_pre pre x j hjn)
                generalize hpj : pre ++ List.take j x.data.toList = pj at *
                clear hpj
                go_wp2_with (first
                  | (at_builtin; refine wpList_append_own _ rfl _ _ 22 rfl w.heap.size 5 i0 (.int .u8 0) 1 1 Try.underlying22 hi hz0 hz1 hz2 rfl (by decide) _ _ _ rfl (hrn.alloc _) ⟨(wr.drewN nq).heap.size, 0, none⟩ 1 1 [.int .u8 (x[j].toNat : Int)] rfl rfl (cell_one_new _ _ _) (fun x hx => by simp at hx; subst hx; rfl) (by unfold maxLen; omega) (by omega) (by simp; omega) ?_; intro v3 w3 hown3 hgrow3 hnil3; obtain ⟨hrow3, hB3⟩ := hrn.step hbn hbase3 hown3 hgrow3; rw [HTK.out] at hrow3; clear hown3 hgrow3 hnil3))
                go_roundg g2
                case measure => omega
                case rel => exact ⟨j + 1, by omega, by first | rfl | simp, rfl, hrow3, HT, hB3⟩
        · have hlong' : ¬ ((pre.length : Int) + (x.size : Int) ≤ 4000) := by omega
          have hlong2 : 4000 < (pre.length : Int) + (x.size : Int) := by omega
          have HO := Lib.hid (HOV.out (by omega))
          go_wp2_with (first
            | (at_builtin; refine wpList_append_own _ rfl _ _ 22 rfl w.heap.size 5 i0 (.int .u8 0) 1 1 Try.underlying22 hi hz0 hz1 hz2 rfl (by decide) _ _ _ rfl (hrow.alloc _) ⟨wr.heap.size, 0, none⟩ 1 1 [.int .u8 (c.toNat : Int)] rfl rfl (cell_one_new _ _ _) (fun x hx => by simp at hx; subst hx; rfl) (by unfold maxLen; omega) (by omega) (by simp; omega) ?_; intro v1 w1 hown1 hgrow1 hnil1; obtain ⟨hrow1, hB1⟩ := hrow.step hB hbase hown1 hgrow1; rw [HPE.out] at hrow1; have hL1 := hrow1.len; clear hown1 hgrow1 hnil1))
          try rw [Exit.noGoto_ret]
          go_ret2
          exact ⟨by rw [out_no HO.out, HO.out]; rfl, hB1⟩
end Go.Proofs.Ytgbnpdgehknfpaa.joinimpl
