/- The contracts of both CaptureTimes. -/
import Derived.Handy
import Derived.Test.YtpeobnmfndelhaaK16
import Derived.Test.YtpeobnmfndelhaaK23
import Derived.Test.YtpeobnmfndelhaaK24
import Derived.Test.YtpeobnmfndelhaaK10
import Derived.Test.YtpeobnmfndelhaaK07
import Derived.Test.YtpeobnmfndelhaaK03
import Derived.Maps.AppendAt
import Derived.StillTailTactics
import Derived.Maps.OwnSet
namespace Go.Proofs.Ytpeobnmfndelhaa.lists
open Go.RowKit P2 words edges ints good adjs fns sets rets apps gridr grid trip covs bitsI times mids filled cops
set_option linter.unusedVariables false

noncomputable def capT (s k : Int) (l : List Ed) : List (List Int) := gridG (gameN l s.toNat k.toNat).P s.toNat (tms (gameN l s.toNat k.toNat))
theorem gridG_ok {P n : Nat} {T : Nat → Nat → Int} (hP : P ≤ 200) (hn : n ≤ 8) : RowsOk (gridG P n T) :=
  rows_ok (M := 8) (fun r hr => by obtain ⟨p, _, rfl⟩ := List.mem_map.1 hr; rw [rowG_len]; exact hn) (by omega) (by rw [gridG_len]; omega)
theorem capT_ok (s k : Int) (l : List Ed) : RowsOk (gdG (FieldP s l k) (capT s k l)) := by
  by_cases h : FieldP s l k
  · rw [gdG_yes h]
    have h1 := h.1.2.1
    have h2 := h.2.2.2
    exact gridG_ok (game_small (by omega) (by omega)) (by omega)
  · rw [gdG_no h]; exact rows_nil
set_option maxHeartbeats 1000000 in
set_option maxRecDepth 100000 in
theorem huntIn_no (s k : Int) (v : Value) (l : List Ed) (w : World) (h : Edges w v l) (hl : l.length ≤ 1048576) (hf : ¬ FieldP s l k) :
    Calls Try.prog 66 #[.agg #[.int .i64 s, v], .int .i64 k] w fun e w' => e = .returned (.tuple #[.agg #[.slice none 0 0, .slice none 0 0, .slice none 0 0, .slice none 0 0, .slice none 0 0], .bool false]) ∧ Below w.heap.size w w' := by
  obtain ⟨A, c, rfl, -⟩ := h.form
  have HF := Lib.hid hf
  have b0 : Below w.heap.size w ((w.alloc (.cells #[.int .i64 s, .slice A l.length c] 30)).alloc (.cells #[.slice none 0 0, .slice none 0 0, .slice none 0 0, .slice none 0 0, .slice none 0 0] 82)) := ((Below.refl _ _).alloc (Nat.le_refl _) _).alloc (by simp) _
  have g0 := (Blk.new w 30 #[.int .i64 s, .slice A l.length c]).alloc (.cells #[.slice none 0 0, .slice none 0 0, .slice none 0 0, .slice none 0 0, .slice none 0 0] 82)
  have r0 := Blk.new (w.alloc (.cells #[.int .i64 s, .slice A l.length c] 30)) 82 #[.slice none 0 0, .slice none 0 0, .slice none 0 0, .slice none 0 0, .slice none 0 0]
  rw [World.size_alloc] at r0
  obtain ⟨p0, p1, -, -⟩ := g0.two
  have HCL := Lib.hid (implCopL_any s k (.slice A l.length c) l _ (h.below b0) hl)
  clear h hf
  go_enter Try.func66, Try.ntmps66
  go_wp2_with fail
  refine HCL.out.mono ?_
  rintro e w1 ⟨A1, c1, ul, rfl, o1, b1⟩
  rw [okG_no HF.out]
  have hr1 := r0.below b1 r0.lt
  have hB1 := btrans b0 b1
  obtain ⟨r0', r1', r2', r3', r4'⟩ := blk5 hr1
  have z0 := hr1.frozen 0
  have z1 := hr1.frozen 1
  have z2 := hr1.frozen 2
  have z3 := hr1.frozen 3
  have z4 := hr1.frozen 4
  have h5 := ((((hr1.set_ 0 (.slice none 0 0)).set_ 1 (.slice none 0 0)).set_ 2 (.slice none 0 0)).set_ 3 (.slice none 0 0)).set_ 4 (.slice none 0 0)
  have HQ : Hid (Blk (((((w1.setCell ⟨w.heap.size + 1, 0, none⟩ (.slice none 0 0)).setCell ⟨w.heap.size + 1, 1, none⟩ (.slice none 0 0)).setCell ⟨w.heap.size + 1, 2, none⟩ (.slice none 0 0)).setCell ⟨w.heap.size + 1, 3, none⟩ (.slice none 0 0)).setCell ⟨w.heap.size + 1, 4, none⟩ (.slice none 0 0)) (w.heap.size + 1) 82 #[.slice none 0 0, .slice none 0 0, .slice none 0 0, .slice none 0 0, .slice none 0 0]) := by
    show Blk _ _ _ _
    simpa using h5
  have HBB : Hid (Below w.heap.size w (((((w1.setCell ⟨w.heap.size + 1, 0, none⟩ (.slice none 0 0)).setCell ⟨w.heap.size + 1, 1, none⟩ (.slice none 0 0)).setCell ⟨w.heap.size + 1, 2, none⟩ (.slice none 0 0)).setCell ⟨w.heap.size + 1, 3, none⟩ (.slice none 0 0)).setCell ⟨w.heap.size + 1, 4, none⟩ (.slice none 0 0))) :=
    ((((hB1.setCell (Nat.le_succ _) _).setCell (Nat.le_succ _) _).setCell (Nat.le_succ _) _).setCell (Nat.le_succ _) _).setCell (Nat.le_succ _) _
  clear HCL b0 g0 r0 b1 o1 h5 hr1 hB1 p0 p1
  go_wp2_with fail
  obtain ⟨q0, q1, q2, q3, q4⟩ := blk5 HQ.out
  exact bodyPost_ret (v := .tuple #[.agg #[.slice none 0 0, .slice none 0 0, .slice none 0 0, .slice none 0 0, .slice none 0 0], .bool false]) (by simp [results, Try.results66, go_sem, q0, q1, q2, q3, q4]) rfl ⟨rfl, HBB.out⟩
end Go.Proofs.Ytpeobnmfndelhaa.lists

/- The contract of the model's l5Later. -/
namespace Go.Proofs.Ytpeobnmfndelhaa.bags
open Go.RowKit P2 words edges ints good adjs fns sets apps covs neigh balls reach
set_option linter.unusedVariables false

theorem apart_or {u v : Value} (h : ∀ k, u.ownBlock = some k → v.ownBlock ≠ some k) : v.ownBlock = none ∨ v.ownBlock ≠ u.ownBlock := by
  cases hv : v.ownBlock with
  | none => exact .inl rfl
  | some q => exact .inr fun e => h q e.symm hv
theorem apart_grow {u u' v : Value} {H : Nat} (h : ∀ k, u.ownBlock = some k → v.ownBlock ≠ some k) (hl : u'.ownBlock = u.ownBlock ∨ u'.ownBlock = some H) (hv : ∀ k, v.ownBlock = some k → k < H) : ∀ k, u'.ownBlock = some k → v.ownBlock ≠ some k := fun k hk hk' => by
  rcases hl with e | e
  · exact h k (e.symm.trans hk) hk'
  · rw [e] at hk
    cases hk
    exact Nat.lt_irrefl _ (hv _ hk')
def nodesL (S : List Nat) : List Int := S.map fun x : Nat => (x : Int)
theorem mem_nodesL {S : List Nat} {y : Nat} : (y : Int) ∈ nodesL S ↔ y ∈ S := by
  unfold nodesL
  rw [List.mem_map]
  constructor
  · rintro ⟨z, hz, e⟩
    obtain rfl : z = y := by omega
    exact hz
  · intro h; exact ⟨y, h, rfl⟩
theorem nodesL_len (S : List Nat) : (nodesL S).length = S.length := by simp [nodesL]
theorem nodesL_at {S : List Nat} {k z : Nat} (h : S[k]? = some z) : (nodesL S)[k]? = some (z : Int) := by simp [nodesL, h]
theorem nodesL_app (S : List Nat) (y : Nat) : nodesL (S ++ [y]) = nodesL S ++ [(y : Int)] := by simp [nodesL]
def goneB (gl : List Int) (z : Nat) : Bool := decide ((z : Int) ∈ gl)
theorem nw_none (n : Nat) : nw (fun _ => false) n = [] := by
  induction n with
  | zero => rfl
  | succ n ih => rw [nw_no rfl, ih]

set_option maxHeartbeats 8000000 in
set_option maxRecDepth 100000 in
theorem l5Later_any (n x : Nat) (gl : List Int) (v u : Value) (l : List Ed) (w : World) (h : Edges w v l) (hl : l.length ≤ 1048576) (hu : Ints w u gl) (hgl : gl.length ≤ 1048576) (hn8 : n ≤ 8) (hx : x < n) :
    Calls Try.prog 142 #[.agg #[.int .i64 (n : Int), v], u, .int .i64 (x : Int)] w (RowI w (nw (laterB n l (goneB gl) x) n)) := by
  obtain ⟨i0, hi, hz0, hz1, hz2⟩ := info_parts infoInt
  obtain ⟨A, c, rfl, -⟩ := h.form
  obtain ⟨A2, c2, rfl, -⟩ := hu.form
  have H := Lib.hid h
  have HU := Lib.hid hu
  have b1 : Below w.heap.size w (w.alloc (.cells #[.int .i64 (n : Int), .slice A l.length c] 30)) := (Below.refl _ _).alloc (Nat.le_refl _) _
  have HB0 : Hid (Below w.heap.size w (((w.alloc (.cells #[.int .i64 (n : Int), .slice A l.length c] 30)).alloc (.cells #[] 3)).alloc (.cells #[.int .i64 (x : Int)] 3))) := (b1.alloc (by simp) _).alloc (by simp; omega) _
  have HG0 := Lib.hid (((Blk.new w 30 #[.int .i64 (n : Int), .slice A l.length c]).alloc (.cells #[] 3)).alloc (.cells #[.int .i64 (x : Int)] 3))
  have HO0 : Hid ((((w.alloc (.cells #[.int .i64 (n : Int), .slice A l.length c] 30)).alloc (.cells #[] 3)).alloc (.cells #[.int .i64 (x : Int)] 3)).ownsRow w.heap.size 3 1 (.slice (some ⟨w.heap.size + 1, 0, none⟩) 0 0) (nw (fun _ => false) n).length (cellsI (nw (fun _ => false) n))) := by
    show World.ownsRow _ _ _ _ _ _ _
    rw [nw_none]
    have h_ := (own_new0 (w.alloc (.cells #[.int .i64 (n : Int), .slice A l.length c] 30)) 3 1).alloc (.cells #[.int .i64 (x : Int)] 3)
    rw [World.size_alloc] at h_
    exact own_base h_ (by omega)
  have HS0 : Hid ((((w.alloc (.cells #[.int .i64 (n : Int), .slice A l.length c] 30)).alloc (.cells #[] 3)).alloc (.cells #[.int .i64 (x : Int)] 3)).ownsRow w.heap.size 3 1 (.slice (some ⟨w.heap.size + 1 + 1, 0, none⟩) 1 1) (nodesL [x]).length (cellsI (nodesL [x]))) := by
    have h_ := own_new1 ((w.alloc (.cells #[.int .i64 (n : Int), .slice A l.length c] 30)).alloc (.cells #[] 3)) 3 (x : Int)
    rw [World.size_alloc, World.size_alloc] at h_
    exact own_base h_ (by omega)
  have HL0 : Hid (Later n l (goneB gl) x 0 0 [x] (fun _ => false)) := Later.start hx
  have HA0 : Hid (∀ k, (Value.slice (some ⟨w.heap.size + 1 + 1, 0, none⟩) 1 1).ownBlock = some k → (Value.slice (some ⟨w.heap.size + 1, 0, none⟩) 0 0).ownBlock ≠ some k) := fun k hk hk' => by
    simp [Value.ownBlock] at hk hk'
    omega
  have HX := Lib.hid hx
  clear h hu b1
  go_enter Try.func142, Try.ntmps142
  go_wp2_with fail
  go_loopg [7, 8, 9] (n + 1) (fun g ov sv kv wr => ∃ (k : Nat) (S : List Nat) (o : Nat → Bool) (ow sw : Value), ow = ov ∧ sw = sv ∧ k + g = n + 1 ∧ k ≤ S.length ∧ kv = .int .i64 (k : Int) ∧ Hid (Later n l (goneB gl) x k 0 S o) ∧
    wr.ownsRow w.heap.size 3 1 ow (nw o n).length (cellsI (nw o n)) ∧ wr.ownsRow w.heap.size 3 1 sw (nodesL S).length (cellsI (nodesL S)) ∧ Hid (∀ k, sw.ownBlock = some k → ow.ownBlock ≠ some k) ∧
    Blk wr w.heap.size 30 #[.int .i64 (n : Int), .slice A l.length c] ∧ Below w.heap.size w wr)
  case atStart => exact ⟨0, [x], _, _, _, rfl, rfl, by omega, by simp, rfl, HL0, HO0.out, HS0.out, HA0, HG0.out, HB0.out⟩
  case round =>
    clear HB0 HG0 HO0 HS0 HL0 HA0
    obtain ⟨k, S, o, ow, sw, rfl, rfl, hkg, hkS, rfl, hlt, hro, hrs, hap, hgb, hB⟩ := hrel
    have hSl := hlt.out.len
    have hSn := nodesL_len S
    obtain ⟨A3, c3, rfl⟩ := own_form hrs
    by_cases hk : k < S.length
    · obtain ⟨z, hz⟩ : ∃ z, S[k]? = some z := ⟨_, List.getElem?_eq_getElem hk⟩
      have hzn := (hlt.out.seen z (List.mem_of_getElem? hz)).1
      have hk' : (k : Int) < ((nodesL S).length : Int) := by omega
      obtain ⟨g2, rfl⟩ : ∃ g2, gk = g2 + 1 := ⟨gk - 1, by omega⟩
      obtain ⟨_, _, hf, hcc⟩ := (show Ints wr (.slice A3 (nodesL S).length c3) (nodesL S) from Reads.of_own hrs).form
      cases hf
      obtain ⟨g3, o3, rfl, q3⟩ := hcc k _ (nodesL_at hz)
      obtain ⟨p0, p1, -, -⟩ := hgb.two
      have HNB := Lib.hid (neigh.l2Neighbors_any n (z : Int) (.slice A l.length c) l wr.drew (H.out.below hB.drew) hl hn8)
      have HRO := Lib.hid hro
      have HRS := Lib.hid hrs
      have HG := Lib.hid hgb
      have HB := Lib.hid hB
      have HZ := Lib.hid hz
      have HSN := Lib.hid hSn
      have HNL := nw_len (fun y => adj l (z : Int) y) n
      clear hro hrs hgb hB hz hcc hSn
      generalize hNN : nw (fun y => adj l (z : Int) y) n = N1 at HNB HNL
      have HN1 := Lib.hid hNN
      clear hNN
      go_wp2_with fail
      go_still_tail 5, (by kernel_rfl)
      change wpList _ _ _ _ _ wr.drew
      go_wp2_with fail
      refine HNB.out.mono ?_
      rintro e w3 ⟨A5, c5, rfl, o5, b5⟩
      have d5 : Below wr.heap.size wr w3 := (Below.refl _ _).drew.trans b5
      have HO5 := Lib.hid (own_base (B' := w.heap.size) o5 HB.out.size)
      have HRO3 := Lib.hid (own_below HRO.out d5)
      have HRS3 := Lib.hid (own_below HRS.out d5)
      have HG3 := Lib.hid (HG.out.below d5 HG.out.lt)
      have HB3 := Lib.hid (btrans HB.out d5)
      have HAP3 : Hid (∀ k, (Value.slice (some ⟨g3, o3, none⟩) (nodesL S).length c3).ownBlock = some k → (Value.slice A5 N1.length c5).ownBlock ≠ some k) := fun q hq hq' => by
        have h1 := (HRS.out.lt q hq).2
        have h2 := (o5.lt q hq').1
        have h3 : wr.heap.size = wr.drew.heap.size := rfl
        omega
      clear HNB o5 b5 d5 p0 p1 q3 HRO HRS HG
      go_wp2_with fail
      go_loopg [7, 8, 11] N1.length (fun g ov sv iv wi => ∃ (i : Nat) (S : List Nat) (o : Nat → Bool) (ow sw : Value), ow = ov ∧ sw = sv ∧ i + g = N1.length ∧ iv = .int .i64 (i : Int) ∧ Hid (Later n l (goneB gl) x k i S o ∧ S[k]? = some z) ∧
        wi.ownsRow w.heap.size 3 1 ow (nw o n).length (cellsI (nw o n)) ∧ wi.ownsRow w.heap.size 3 1 sw (nodesL S).length (cellsI (nodesL S)) ∧ wi.ownsRow w.heap.size 3 1 (.slice A5 N1.length c5) N1.length (cellsI N1) ∧
        Hid (∀ k, sw.ownBlock = some k → ow.ownBlock ≠ some k) ∧ Hid (∀ k, sw.ownBlock = some k → (Value.slice A5 N1.length c5).ownBlock ≠ some k) ∧
        Blk wi w.heap.size 30 #[.int .i64 (n : Int), .slice A l.length c] ∧ Below w.heap.size w wi)
      case atStart => exact ⟨0, S, o, _, _, rfl, rfl, by omega, rfl, ⟨hlt.out, HZ.out⟩, HRO3.out, HRS3.out, HO5.out, hap, HAP3, HG3.out, HB3.out⟩
      case round =>
        clear HRO3 HRS3 HG3 HB3 HAP3 HO5 hap hlt HZ HSN hk hk' hSl HB
        obtain ⟨i, S, o, ow, sw, rfl, rfl, hig, rfl, hlt, hro, hrs, hr5, hap, hap5, hgb, hB⟩ := hrel
        have hSl := hlt.out.1.len
        have hSn := nodesL_len S
        have hol := nw_len o n
        obtain ⟨A3, c3, rfl⟩ := own_form hrs
        obtain ⟨A4, c4, rfl⟩ := own_form hro
        cases gk with
        | zero =>
          obtain rfl : i = N1.length := by omega
          have HKS : Hid (k + 1 ≤ S.length) := (List.getElem?_eq_some_iff.1 hlt.out.2).1
          have HN : Hid (Later n l (goneB gl) x (k + 1) 0 S o) := hlt.out.1.next hlt.out.2 (by rw [HN1.out]; omega)
          have HRO := Lib.hid hro
          have HRS := Lib.hid hrs
          have HG := Lib.hid hgb
          have HB := Lib.hid hB
          clear hro hrs hr5 hgb hB hSn hSl hol
          go_wp2_with fail
          go_roundg g2
          case measure => omega
          case rel => exact ⟨k + 1, S, o, _, _, rfl, rfl, by omega, HKS.out, by go_num, HN, HRO.out, HRS.out, hap, HG.out, HB.out⟩
        | succ g4 =>
          have hit : (i : Int) < (N1.length : Int) := by omega
          obtain ⟨yv, hyv⟩ : ∃ yv, N1[i]? = some yv := ⟨_, List.getElem?_eq_getElem (by omega)⟩
          obtain ⟨y, rfl, hyn, hay⟩ := nw_at (by rw [HN1.out]; exact hyv : (nw (fun y => adj l (z : Int) y) n)[i]? = some yv)
          obtain ⟨_, _, hf, hcc⟩ := (show Ints wr (.slice A5 N1.length c5) N1 from Reads.of_own hr5).form
          cases hf
          obtain ⟨g5, o5, rfl, q5⟩ := hcc i _ hyv
          have HY : Hid ((nw (fun y => adj l (z : Int) y) n)[i]? = some (y : Int)) := by show _ = _; rw [HN1.out]; exact hyv
          have HH1 := Lib.hid (l1Has_any (.slice A3 (nodesL S).length c3) (nodesL S) (y : Int) wr (Reads.of_own hrs) (by omega))
          have HH2 := Lib.hid (l1Has_any (.slice A2 gl.length c2) gl (y : Int) wr (HU.out.below hB) hgl)
          have HPU := Lib.hid (l1Put_both (.slice A4 (nw o n).length c4) (nw o n) (y : Int) wr (Reads.of_own hro) (by omega) (covs.nw_asc _ _))
          have HLT := Lib.hid hlt.out
          have HLO := Lib.hid hro.lt
          have HLS := Lib.hid hrs.lt
          have HL5 := Lib.hid hr5.lt
          have HRO := Lib.hid hro
          have HR5 := Lib.hid hr5
          have HG := Lib.hid hgb
          have HB := Lib.hid hB
          have HSN := Lib.hid hSn
          have hsl8 : (nodesL S).length ≤ 8 := by omega
          have hsz := hB.size
          clear hro hr5 hgb hB hcc hyv hay hlt hSn
          by_cases hm : y ∈ S
          · rw [show decide ((y : Int) ∈ nodesL S) = true from decide_eq_true (mem_nodesL.2 hm)] at HH1
            have HN : Hid (Later n l (goneB gl) x k (i + 1) S o ∧ S[k]? = some z) := ⟨HLT.out.1.skip HLT.out.2 HY.out hm, HLT.out.2⟩
            have HRS := Lib.hid hrs
            clear hm hrs HPU HH2
            go_wp2_with fail
            refine HH1.out.mono ?_
            rintro e w' ⟨rfl, rfl⟩
            go_wp2_with fail
            go_roundg g4
            case measure => omega
            case rel => exact ⟨i + 1, S, o, _, _, rfl, rfl, by omega, by go_num, HN, HRO.out, HRS.out, HR5.out, hap, hap5, HG.out, HB.out⟩
          · rw [show decide ((y : Int) ∈ nodesL S) = false from decide_eq_false (fun hh => hm (mem_nodesL.1 hh))] at HH1
            cases hG : goneB gl y with
            | true =>
              rw [show decide ((y : Int) ∈ gl) = true from hG] at HH2
              have HN : Hid (Later n l (goneB gl) x k (i + 1) (S ++ [y]) o ∧ (S ++ [y])[k]? = some z) := ⟨HLT.out.1.see HLT.out.2 HY.out hm hG, by
                rw [List.getElem?_append_left (List.getElem?_eq_some_iff.1 HLT.out.2).1]; exact HLT.out.2⟩
              have HNA := Lib.hid (nodesL_app S y)
              clear hm hG HPU
              generalize nodesL S = m at *
              go_wp2_with fail
              refine HH1.out.mono ?_
              rintro e w' ⟨rfl, rfl⟩
              go_wp2_with fail
              refine HH2.out.mono ?_
              rintro e w' ⟨rfl, rfl⟩
              go_wp2_with (at_builtin; refine wpList_append_own_at _ rfl _ _ 25 rfl (w.heap.size) 3 i0 (.int .i64 0) 1 8 Try.underlying25 hi hz0 hz1 hz2 rfl (by decide) _ _ _ rfl (hrs.alloc _) ⟨wr.heap.size, 0, none⟩ 1 1 [.int .i64 ((y : Int))] rfl rfl (cell_one_new _ _ _) (fun x hx => by simp at hx; subst hx; rfl) (by unfold maxLen; omega) (by omega) (by simp; omega) ?_; intro v2 w2 hown2 hgrow2 _ hl2)
              have HROA := Lib.hid ((HRO.out.alloc (.cells #[.int .i64 (y : Int)] 3)).kept hgrow2 (apart_or hap.out))
              have HR5A := Lib.hid ((HR5.out.alloc (.cells #[.int .i64 (y : Int)] 3)).kept hgrow2 (apart_or hap5.out))
              have HAPA : Hid (∀ k, v2.ownBlock = some k → (Value.slice A4 (nw o n).length c4).ownBlock ≠ some k) := apart_grow hap.out hl2 (fun q hq => by have := (HLO.out q hq).2; simp; omega)
              have HAP5A : Hid (∀ k, v2.ownBlock = some k → (Value.slice (some ⟨g5, o5, none⟩) N1.length c5).ownBlock ≠ some k) := apart_grow hap5.out hl2 (fun q hq => by have := (HL5.out q hq).2; simp; omega)
              obtain ⟨hown3, hB2⟩ := push1 hrs hown2 hgrow2 HB.out.size
              rw [← HNA.out] at hown3
              have HB6 := Lib.hid (HB.out.trans hB2)
              have HG7 := Lib.hid ((HG.out.alloc (.cells #[.int .i64 (y : Int)] 3)).grown hgrow2 (fun e => mids.own_ne hrs HG.out (by decide) e.symm))
              have HO6 := Lib.hid hown3
              clear hgrow2 hown2 hown3 hB2 hl2 hrs
              go_roundg g4
              case measure => omega
              case rel => exact ⟨i + 1, S ++ [y], o, _, _, rfl, rfl, by omega, by go_num, HN, HROA.out, HO6.out, HR5A.out, HAPA, HAP5A, HG7.out, HB6.out⟩
            | false =>
              rw [show decide ((y : Int) ∈ gl) = false from hG] at HH2
              have HN : Hid (Later n l (goneB gl) x k (i + 1) S (pput o y) ∧ S[k]? = some z) := ⟨HLT.out.1.put HLT.out.2 HY.out hm hG, HLT.out.2⟩
              have HRS := Lib.hid hrs
              have HYN := Lib.hid hyn
              clear hm hG hrs
              go_wp2_with fail
              refine HH1.out.mono ?_
              rintro e w' ⟨rfl, rfl⟩
              go_wp2_with fail
              refine HH2.out.mono ?_
              rintro e w' ⟨rfl, rfl⟩
              go_wp2_with fail
              refine HPU.out.mono ?_
              rintro e w7 ⟨L, A7, c7, rfl, hp7, -, b7, h7⟩
              have HL := Lib.hid (pput_is hp7 HYN.out)
              have HO7 : Hid (w7.ownsRow w.heap.size 3 1 (.slice A7 L.length c7) L.length (cellsI L)) := by
                rcases h7 with ⟨rfl, e7, e8⟩ | h7
                · show World.ownsRow _ _ _ _ _ _ _
                  rw [e7, e8]; exact HRO.out
                · exact own_base h7 HB.out.size
              have HAP7 : Hid (∀ k, (Value.slice A3 (nodesL S).length c3).ownBlock = some k → (Value.slice A7 L.length c7).ownBlock ≠ some k) := by
                rcases h7 with ⟨rfl, e7, e8⟩ | h7
                · show ∀ k, _
                  rw [e7]; exact hap.out
                · intro q hq hq'
                  have h1 := (HLS.out q hq).2
                  have h2 := (h7.lt q hq').1
                  omega
              have HRS7 := Lib.hid (own_below HRS.out b7)
              have HR57 := Lib.hid (own_below HR5.out b7)
              have HG7 := Lib.hid (HG.out.below b7 HG.out.lt)
              have HB7 := Lib.hid (btrans HB.out b7)
              clear b7 hp7 h7
              go_wp2_with fail
              go_roundg g4
              case measure => omega
              case rel => exact ⟨i + 1, S, pput o y, _, _, rfl, rfl, by omega, by go_num, HN, by rw [← HL.out]; exact HO7.out, HRS7.out, HR57.out, by first | exact HAP7 | (rw [← HL.out]; exact HAP7), hap5, HG7.out, HB7.out⟩
    · have hk' : ¬ (k : Int) < ((nodesL S).length : Int) := by omega
      have dk : decide ((k : Int) < ((nodesL S).length : Int)) = false := decide_eq_false hk'
      have HALL : Hid (nw o n = nw (laterB n l (goneB gl) x) n) := by
        obtain rfl : k = S.length := by omega
        exact hlt.out.all HX.out
      obtain ⟨A4, c4, rfl⟩ := own_form hro
      have HR := Lib.hid hro
      have HB := Lib.hid hB
      clear hro hrs hgb hB hSl
      go_wp2_with fail
      go_ret
      rw [← HALL.out]
      exact ⟨A4, c4, rfl, HR.out, HB.out⟩
end Go.Proofs.Ytpeobnmfndelhaa.bags

/- Fronts of sets: plain mathematics. -/
namespace Go.Proofs.Ytpeobnmfndelhaa.fronts
open Go.RowKit P2 words edges ints fns sets covs reach bags
set_option linter.unusedVariables false

/-- a node of the front of a set -/
def frontB (l : List Ed) (n : Nat) (S : Nat → Bool) (x : Nat) : Bool := S x && (List.range n).any fun y => !S y && adj l x y
theorem frontB_iff {l : List Ed} {n : Nat} {S : Nat → Bool} {x : Nat} : frontB l n S x = true ↔ S x = true ∧ ∃ y, y < n ∧ S y = false ∧ adj l x y = true := by
  unfold frontB
  rw [Bool.and_eq_true, List.any_eq_true]
  simp only [List.mem_range, Bool.and_eq_true, Bool.not_eq_true']
theorem frontB_congr {l : List Ed} {n : Nat} {S T : Nat → Bool} (h : ∀ z, z < n → S z = T z) {x : Nat} (hx : x < n) : frontB l n S x = frontB l n T x := by
  rw [Bool.eq_iff_iff, frontB_iff, frontB_iff, h x hx]
  constructor
  · rintro ⟨h1, y, hy, h2, h3⟩; exact ⟨h1, y, hy, by rw [← h y hy]; exact h2, h3⟩
  · rintro ⟨h1, y, hy, h2, h3⟩; exact ⟨h1, y, hy, by rw [h y hy]; exact h2, h3⟩
/-- as the program reckons it -/
theorem front_bits {l : List Ed} {n : Nat} {S : Nat → Bool} {z : Nat} (hz : z < n) : (arB l n (numOf (fun y => !S y) n) z && S z) = frontB l n S z := by
  rw [Bool.eq_iff_iff, Bool.and_eq_true, arB_iff, frontB_iff]
  constructor
  · rintro ⟨⟨x, hx, hb, he⟩, hs⟩
    rw [numOf_bit, Bool.and_eq_true] at hb
    have hb2 : S x = false := by have := hb.2; simpa using this
    refine ⟨hs, x, hx, hb2, ?_⟩
    rcases he with rfl | he
    · rw [hs] at hb2; cases hb2
    · rw [adj_comm]; exact he
  · rintro ⟨hs, y, hy, hb, he⟩
    refine ⟨⟨y, hy, ?_, .inr (by rw [adj_comm]; exact he)⟩, hs⟩
    rw [numOf_bit]; simp [hy, hb]
/-- the front of a list, found by the first i of its nodes and k nodes for the next one -/
def FrK (n : Nat) (l : List Ed) (xs : List Int) (i k : Nat) (p : Nat → Bool) : Prop :=
  ∀ z, z < n → (p z = true ↔ (∃ j, j < i ∧ xs[j]? = some (z : Int) ∧ ∃ y : Nat, y < n ∧ goneB xs y = false ∧ adj l z y = true) ∨ (xs[i]? = some (z : Int) ∧ ∃ y : Nat, y < k ∧ goneB xs y = false ∧ adj l z y = true))
section
variable {n : Nat} {l : List Ed} {xs : List Int} {i k : Nat} {p : Nat → Bool}
theorem FrK.start (n : Nat) (l : List Ed) (xs : List Int) : FrK n l xs 0 0 (fun _ => false) := fun z _ => by
  constructor
  · intro h; cases h
  · rintro (⟨j, hj, _⟩ | ⟨_, y, hy, _⟩) <;> omega
theorem FrK.next (h : FrK n l xs i n p) : FrK n l xs (i + 1) 0 p := fun z hz => by
  rw [h z hz]
  constructor
  · rintro (⟨j, hj, h1, h2⟩ | ⟨h1, h2⟩)
    · exact .inl ⟨j, by omega, h1, h2⟩
    · exact .inl ⟨i, by omega, h1, h2⟩
  · rintro (⟨j, hj, h1, h2⟩ | ⟨_, y, hy, _⟩)
    · by_cases e : j = i
      · subst e; exact .inr ⟨h1, h2⟩
      · exact .inl ⟨j, by omega, h1, h2⟩
    · omega
theorem FrK.put {x : Nat} (h : FrK n l xs i k p) (hx : xs[i]? = some (x : Int)) (hg : goneB xs k = false) (ha : adj l x k = true) (hk : k < n) : FrK n l xs i (k + 1) (pput p x) := fun z hz => by
  unfold pput
  rw [Bool.or_eq_true, decide_eq_true_iff, h z hz]
  constructor
  · rintro ((h1 | ⟨h1, y, hy, h2⟩) | rfl)
    · exact .inl h1
    · exact .inr ⟨h1, y, by omega, h2⟩
    · exact .inr ⟨hx, k, by omega, hg, ha⟩
  · rintro (h1 | ⟨h1, y, hy, h2⟩)
    · exact .inl (.inl h1)
    · rw [hx] at h1
      have : (x : Int) = (z : Int) := by simpa using h1
      exact .inr (by omega)
theorem FrK.skip {x : Nat} (h : FrK n l xs i k p) (hx : xs[i]? = some (x : Int)) (hn : goneB xs k = true ∨ adj l x k = false) : FrK n l xs i (k + 1) p := fun z hz => by
  rw [h z hz]
  constructor
  · rintro (h1 | ⟨h1, y, hy, h2⟩)
    · exact .inl h1
    · exact .inr ⟨h1, y, by omega, h2⟩
  · rintro (h1 | ⟨h1, y, hy, h2, h3⟩)
    · exact .inl h1
    · refine .inr ⟨h1, y, ?_, h2, h3⟩
      by_cases e : y = k
      · subst e
        rw [hx] at h1
        have e2 : (x : Int) = (z : Int) := by simpa using h1
        rcases hn with hn | hn
        · rw [hn] at h2; cases h2
        · rw [e2, h3] at hn; cases hn
      · omega
theorem FrK.all (h : FrK n l xs xs.length 0 p) : nw p n = nw (frontB l n (goneB xs)) n := reach.nw_congr fun z hz => by
  rw [Bool.eq_iff_iff, h z hz, frontB_iff]
  constructor
  · rintro (⟨j, _, h1, h2⟩ | ⟨_, y, hy, _⟩)
    · exact ⟨decide_eq_true (List.mem_of_getElem? h1), h2⟩
    · omega
  · rintro ⟨h1, h2⟩
    obtain ⟨j, hj⟩ := List.getElem?_of_mem (of_decide_eq_true h1)
    exact .inl ⟨j, (List.getElem?_eq_some_iff.1 hj).1, hj, h2⟩
end
/-- a list as a number -/
theorem code_gone {xs : List Int} {n : Nat} (h : ∀ x ∈ xs, 0 ≤ x ∧ x < (n : Int)) : codeL xs = numOf (goneB xs) n := by
  apply Nat.eq_of_testBit_eq
  intro i
  rw [code_bit (fun x hx => (h x hx).1), numOf_bit]
  unfold goneB
  by_cases hi : i < n
  · simp [hi]
  · have : ¬ (i : Int) ∈ xs := fun hm => by have := h _ hm; omega
    simp [hi, this]
end Go.Proofs.Ytpeobnmfndelhaa.fronts

/- Lists that have each node once: the contracts of the program's hasOrder and of the model's l2Each. -/
namespace Go.Proofs.Ytpeobnmfndelhaa.each
open Go.RowKit Go.Maps P2 words edges ints good near adjs fns sets rets covs balls
set_option linter.unusedVariables false

theorem cell_keep {w w' : World} {b o : Nat} {v : Value} (h : w.cell? ⟨b, o, none⟩ = some v) (hb : Below w.heap.size w w') : w'.cell? ⟨b, o, none⟩ = some v :=
  (hb.cell (p := ⟨b, o, none⟩) (World.block_lt_of_cell? w (a := ⟨b, o, none⟩) h)).trans h
/-- a list has each node once -/
def EachS (n : Nat) (tl : List Int) : Prop := tl.length = n ∧ ∀ k : Nat, k < n → (k : Int) ∈ tl
theorem allN_nodup (n : Nat) : (allN n).Nodup := by
  unfold allN
  rw [List.Nodup, List.pairwise_map]
  exact List.pairwise_lt_range.imp (fun {a b} h e => by omega)
theorem EachS.range {n : Nat} {tl : List Int} (h : EachS n tl) : ∀ x ∈ tl, 0 ≤ x ∧ x < (n : Int) := fun x hx => by
  apply Classical.byContradiction
  intro hn
  have hnd : (x :: allN n).Nodup := List.nodup_cons.2 ⟨fun hm => hn (mem_allN.1 hm), allN_nodup n⟩
  have hsub : (x :: allN n) ⊆ tl := fun y hy => by
    rcases List.mem_cons.1 hy with rfl | hy
    · exact hx
    · have := mem_allN.1 hy
      have h2 := h.2 y.toNat (by omega)
      rwa [show ((y.toNat : Nat) : Int) = y from by omega] at h2
  have := hnd.length_le_of_subset hsub
  have h1 := h.1
  rw [List.length_cons, allN_len] at this
  omega

/-- the distinct numbers of a list -/
def addD (L : List Int) (x : Int) : List Int := if x ∈ L then L else L ++ [x]
def dst (xs : List Int) : List Int := xs.foldl addD []
theorem mem_addD {L : List Int} {x y : Int} : y ∈ addD L x ↔ y ∈ L ∨ y = x := by
  unfold addD
  split
  · rename_i h; exact ⟨.inl, fun hh => by rcases hh with hh | rfl; exact hh; exact h⟩
  · simp
theorem addD_nodup {L : List Int} {x : Int} (h : L.Nodup) : (addD L x).Nodup := by
  unfold addD
  split
  · exact h
  · rename_i hx
    rw [List.nodup_append]
    exact ⟨h, by simp, fun a ha b hb e => hx (by rw [List.mem_singleton] at hb; subst hb; rw [← e]; exact ha)⟩
theorem mem_fold : ∀ (xs L : List Int) (y : Int), y ∈ xs.foldl addD L ↔ y ∈ L ∨ y ∈ xs
  | [], L, y => by simp
  | x :: xs, L, y => by
    rw [List.foldl_cons, mem_fold xs, mem_addD, List.mem_cons, or_assoc]
theorem fold_nodup : ∀ (xs L : List Int), L.Nodup → (xs.foldl addD L).Nodup
  | [], L, h => h
  | x :: xs, L, h => by rw [List.foldl_cons]; exact fold_nodup xs _ (addD_nodup h)
theorem mem_dst {xs : List Int} {y : Int} : y ∈ dst xs ↔ y ∈ xs := by unfold dst; rw [mem_fold]; simp
theorem dst_nodup (xs : List Int) : (dst xs).Nodup := fold_nodup xs [] (by simp)
theorem dst_succ {xs : List Int} {k : Nat} {x : Int} (h : xs[k]? = some x) : dst (xs.take (k + 1)) = addD (dst (xs.take k)) x := by
  unfold dst
  rw [List.take_add_one, h, List.foldl_append]; rfl
theorem dst_len (xs : List Int) : (dst xs).length ≤ xs.length := (dst_nodup xs).length_le_of_subset (fun y hy => mem_dst.1 hy)
theorem each_dst {n : Nat} {tl : List Int} (hl : tl.length = n) (hr : ∀ x ∈ tl, 0 ≤ x ∧ x < (n : Int)) : EachS n tl ↔ (dst tl).length = n := by
  constructor
  · intro h
    have h1 : (allN n).length ≤ (dst tl).length := (allN_nodup n).length_le_of_subset (fun y hy => mem_dst.2 (by
      have := mem_allN.1 hy
      have h2 := h.2 y.toNat (by omega)
      rwa [show ((y.toNat : Nat) : Int) = y from by omega] at h2))
    have h2 := dst_len tl
    rw [allN_len] at h1
    omega
  · intro h
    refine ⟨hl, fun k hk => Classical.byContradiction fun hn => ?_⟩
    have hnd : ((k : Int) :: dst tl).Nodup := List.nodup_cons.2 ⟨fun hm => hn (mem_dst.1 hm), dst_nodup tl⟩
    have hsub : ((k : Int) :: dst tl) ⊆ allN n := fun y hy => by
      rcases List.mem_cons.1 hy with rfl | hy
      · exact mem_allN.2 (by omega)
      · exact mem_allN.2 (hr y (mem_dst.1 hy))
    have := hnd.length_le_of_subset hsub
    rw [List.length_cons, allN_len] at this
    omega

theorem lawI : Keyed Try.prog 3 := int_keyed Try.underlying3
theorem ikey {x : Int} (h : In64 x) : keyOf Try.prog 3 (.int .i64 x) = some (.int .i64 x) := keyOf_int_mk Try.underlying3 (wf64 h)
/-- the map has just these numbers -/
def MapI (D : DataW Unit) (xs : List Int) : Prop := Tidy D ∧ (∀ m : Int, has D (.int .i64 m) = decide (m ∈ xs)) ∧ Maps.size D = (dst xs).length
theorem mapI_nil : MapI (.map []) [] := ⟨tidy_empty, fun _ => by simp [has], rfl⟩
theorem MapI.put {D : DataW Unit} {xs : List Int} {k : Nat} {x : Int} (h : MapI D (xs.take k)) (hx : xs[k]? = some x) (hi : In64 x) : MapI (D.put (.int .i64 x) (.lit (.bool true))) (xs.take (k + 1)) := by
  have hk := lawI.key (ikey hi)
  have ht : xs.take (k + 1) = xs.take k ++ [x] := by rw [List.take_add_one, hx]; rfl
  refine ⟨h.1.put hk _, fun m => ?_, ?_⟩
  · by_cases e : m = x
    · subst e
      rw [has_put_same h.1.isMap hk, ht]
      simp
    · rw [has_put_other (fun hh => e (by simpa using hh)), h.2.1 m, ht, decide_eq_decide, List.mem_append]
      simp [e]
  · rw [size_put h.1, h.2.1 x, dst_succ hx, h.2.2]
    unfold addD
    by_cases hm : x ∈ xs.take k
    · rw [if_pos (by simpa using hm), if_pos (mem_dst.2 hm)]
    · rw [if_neg (by simpa using hm), if_neg (fun hh => hm (mem_dst.1 hh)), List.length_append]; rfl

theorem notEach_len {s : Int} {l : List Ed} {tl : List Int} (h : ¬ (tl.length : Int) = s) : ¬ (P2.Good s l ∧ EachS s.toNat tl) := fun hh => h (by
  have h1 := hh.2.1; have h2 := hh.1.1; omega)
theorem notEach_nodes {s : Int} {l : List Ed} {tl : List Int} (h : nodesB s l tl = false) : ¬ (P2.Good s l ∧ EachS s.toNat tl) := fun hh => by
  have h2 := hh.1.1
  have := nodesB_yes hh.1 (fun x hx => by have := hh.2.range x hx; omega)
  rw [h] at this; cases this

set_option maxHeartbeats 2000000 in
set_option maxRecDepth 100000 in
theorem hasOrder_any (s : Int) (v u : Value) (l : List Ed) (tl : List Int) (w : World) (h : Edges w v l) (hl : l.length ≤ 1048576) (hu : Ints w u tl) (htl : tl.length ≤ 1048576) :
    Calls Try.prog 105 #[.agg #[.int .i64 s, v], u] w fun e w' => e = .returned (.bool (okG (P2.Good s l ∧ EachS s.toNat tl))) ∧ Below w.heap.size w w' := by
  obtain ⟨A, c, rfl, -⟩ := h.form
  obtain ⟨A2, c2, rfl, hc2⟩ := hu.form
  have H := Lib.hid h
  have HU := Lib.hid hu
  have HC := Lib.hid hc2
  have hmm := @run_makeMap Try.prog
  have b0 : Below w.heap.size w (w.alloc (.cells #[.int .i64 s, .slice A l.length c] 30)) := (Below.refl _ _).alloc (Nat.le_refl _) _
  have g0 := Blk.new w 30 #[.int .i64 s, .slice A l.length c]
  have HN := Lib.hid (hasNodes_any s (.slice A l.length c) (.slice A2 tl.length c2) l tl _ (h.below b0) hl (hu.below b0) htl)
  clear h hu hc2
  by_cases hlen : (tl.length : Int) = s
  · have dl : ((tl.length : Int) != s) = false := by simp [hlen]
    cases hnd : nodesB s l tl with
    | true =>
      rw [hnd] at HN
      obtain ⟨hg, hr⟩ := nodesB_iff.1 hnd
      obtain ⟨n, rfl⟩ : ∃ n : Nat, s = (n : Int) := ⟨s.toNat, by have := hg.1; omega⟩
      have hn8 : n ≤ 8 := by have := hg.2.1; omega
      have hln : tl.length = n := by omega
      have HV : Hid (okG (P2.Good (n : Int) l ∧ EachS (n : Int).toNat tl) = ((dst tl).length == n)) := by
        show _ = _
        rw [Bool.eq_iff_iff, okG_iff, beq_iff_eq, Int.toNat_natCast]
        exact ⟨fun h => (each_dst hln hr).1 h.2, fun h => ⟨hg, (each_dst hln hr).2 h⟩⟩
      rw [HV.out]
      have HR := Lib.hid hr
      have hlt8 : tl.length ≤ 8 := by omega
      have HTK : Hid (tl.take tl.length = tl) := List.take_length
      clear hg hr hnd hlen hln
      go_enter Try.func105, Try.ntmps105
      obtain ⟨p0, p1, -, -⟩ := g0.two
      go_wp2_with fail
      refine HN.out.mono ?_
      rintro e w1 ⟨rfl, b1⟩
      have e1 := btrans b0 b1
      have g1 := g0.below b1 g0.lt
      have M1 := World.ownsMap_made (H := Unit) w1 Try.prog 3 (plainElem Try.prog 4)
      have hz1 := e1.size
      have g2 := g1.alloc (.map #[] 0)
      have hs1 := g1.lt
      have e2 : Below w.heap.size w (w1.alloc (.map #[] 0)) := e1.alloc hz1 _
      clear p0 p1 b0 b1 g0 g1
      go_wp2_with fail
      go_loopg [22] tl.length (fun g i wr => ∃ (k : Nat) (D : DataW Unit), k + g = tl.length ∧ i = .int .i64 (k : Int) ∧ wr.ownsMap Try.prog 3 (plainElem Try.prog 4) w1.heap.size k D ∧ MapI D (tl.take k) ∧ Blk wr w.heap.size 30 #[.int .i64 (n : Int), .slice A l.length c] ∧ Below w.heap.size w wr)
      case atStart => exact ⟨0, .map [], by omega, rfl, M1, by simpa using mapI_nil, g2, e2⟩
      case round =>
        clear M1 g2 e2
        obtain ⟨k, D, hkg, rfl, hown, hD, hgb, hB⟩ := hrel
        obtain ⟨p0, p1, -, -⟩ := hgb.two
        cases gk with
        | zero =>
          obtain rfl : k = tl.length := by omega
          rw [HTK.out] at hD
          have hln := hown.len Try.underlying136
          rw [hD.2.2] at hln
          have hdn : (((dst tl).length : Int) == (n : Int)) = ((dst tl).length == n) := by
            rw [Bool.eq_iff_iff, beq_iff_eq, beq_iff_eq]; omega
          have HDN := Lib.hid hdn
          clear hdn hD hown
          go_wp2_with fail
          go_ret
          exact ⟨ret_bool HDN.out, hB⟩
        | succ g3 =>
          have hlt : k < tl.length := by omega
          have hlt' : (k : Int) < (tl.length : Int) := by omega
          obtain ⟨x, hx⟩ : ∃ x, tl[k]? = some x := ⟨_, List.getElem?_eq_getElem hlt⟩
          obtain ⟨g, o, rfl, c0⟩ := HC.out k x hx
          have q0 := cell_keep c0 hB
          have hx0 := HR.out x (List.mem_of_getElem? hx)
          have hi64 : In64 x := by unfold In64; omega
          have HD := Lib.hid (hD.put hx hi64)
          have HK := Lib.hid (ikey hi64)
          have HG := Lib.hid hgb
          have hsz := hgb.lt
          have HBB := Lib.hid hB
          clear hx c0 hD hi64 hgb p0 p1 hB hx0
          go_wp2_with (at_mapUpdate; refine wpList_mapUpdate_own _ rfl _ _ _ 136 rfl 3 4 lawI Try.underlying136 _ w1.heap.size k _ rfl hown (by unfold maxLen; omega) _ _ _ rfl rfl HK.out _ [] (plainElem_bool Try.underlying4 true) ?_; intro w3 hown1 hgrow1)
          have hg3 := Lib.hid (HG.out.grown hgrow1 (by simp; omega))
          have hB3 : Below w.heap.size w w3 := HBB.out.grown hgrow1 HBB.out.size (fun j e => by simp at e; omega)
          clear hgrow1 q0
          go_roundg g3
          case measure => omega
          case rel => exact ⟨k + 1, _, by omega, by go_num, hown1, HD.out, hg3.out, hB3⟩
    | false =>
      rw [hnd] at HN
      have HNO := Lib.hid (okG_no (notEach_nodes hnd))
      clear hnd hlen
      go_enter Try.func105, Try.ntmps105
      obtain ⟨p0, p1, -, -⟩ := g0.two
      go_wp2_with fail
      refine HN.out.mono ?_
      rintro e w1 ⟨rfl, b1⟩
      have e1 := btrans b0 b1
      go_wp2_with fail
      go_ret
      exact ⟨ret_bool HNO.out.symm, e1⟩
  · have dl : ((tl.length : Int) != s) = true := by simp [hlen]
    have HNO := Lib.hid (okG_no (notEach_len (l := l) hlen))
    clear hlen HN
    go_enter Try.func105, Try.ntmps105
    obtain ⟨p0, p1, -, -⟩ := g0.two
    go_wp2_with fail
    go_ret
    exact ⟨ret_bool HNO.out.symm, b0⟩

set_option maxHeartbeats 1000000 in
theorem l2Each_any (n : Nat) (v u : Value) (l : List Ed) (tl : List Int) (w : World) (h : Edges w v l) (hu : Ints w u tl) (htl : tl.length ≤ 1048576) (hn8 : n ≤ 8) :
    Calls Try.prog 150 #[.agg #[.int .i64 (n : Int), v], u] w fun e w' => e = .returned (.bool (okG (EachS n tl))) ∧ Below w.heap.size w w' := by
  obtain ⟨A, c, rfl, -⟩ := h.form
  obtain ⟨A2, c2, rfl, -⟩ := hu.form
  have HU := Lib.hid hu
  have b0 : Below w.heap.size w (w.alloc (.cells #[.int .i64 (n : Int), .slice A l.length c] 30)) := (Below.refl _ _).alloc (Nat.le_refl _) _
  have g0 := Blk.new w 30 #[.int .i64 (n : Int), .slice A l.length c]
  have HH := Lib.hid (fun (x : Int) => l1Has_any _ tl x _ (hu.below b0) htl)
  clear h hu
  obtain ⟨p0, p1, -, -⟩ := g0.two
  go_enter Try.func150, Try.ntmps150
  go_wp2_with fail
  go_loop [5] (fun i => ∃ k : Nat, k ≤ n ∧ i = .int .i64 (k : Int) ∧ Hid (∀ j : Nat, j < k → (j : Int) ∈ tl)) (fun i => n - (intOf i).toNat)
  case atStart => exact ⟨0, by omega, rfl, fun j h => by omega⟩
  case round =>
    obtain ⟨k, hk, rfl, hin⟩ := hrel
    by_cases hlt : k < n
    · have hlt' : (k : Int) < (n : Int) := by omega
      have HHk := Lib.hid (HH.out (k : Int))
      by_cases hm : (k : Int) ∈ tl
      · have HK : Hid (∀ j : Nat, j < k + 1 → (j : Int) ∈ tl) := fun j hj => by
          by_cases e : j = k
          · subst e; exact hm
          · exact hin.out j (by omega)
        rw [show decide ((k : Int) ∈ tl) = true from decide_eq_true hm] at HHk
        clear hm
        go_wp2_with fail
        refine HHk.out.mono ?_
        rintro e w2 ⟨rfl, rfl⟩
        go_wp2_with fail
        go_round
        case rel => exact ⟨k + 1, by omega, by go_num, HK⟩
        case measure => simp [intOf]; omega
      · have HN : Hid (okG (EachS n tl) = false) := okG_no (fun h => hm (h.2 k hlt))
        rw [show decide ((k : Int) ∈ tl) = false from decide_eq_false hm] at HHk
        clear hm
        go_wp2_with fail
        refine HHk.out.mono ?_
        rintro e w2 ⟨rfl, rfl⟩
        go_wp2_with fail
        go_ret
        exact ⟨ret_bool HN.out.symm, b0⟩
    · have HV : Hid (((tl.length : Int) == (n : Int)) = okG (EachS n tl)) := by
        show _ = _
        rw [Bool.eq_iff_iff, beq_iff_eq, okG_iff]
        exact ⟨fun h => ⟨by omega, fun j hj => hin.out j (by omega)⟩, fun h => by have := h.1; omega⟩
      go_wp2_with fail
      go_ret
      exact ⟨ret_bool HV.out, b0⟩
end Go.Proofs.Ytpeobnmfndelhaa.each

/- Bags and widths of eliminations: plain mathematics. -/
namespace Go.Proofs.Ytpeobnmfndelhaa.bags
open Go.RowKit P2 words edges ints fns sets covs reach each
set_option linter.unusedVariables false

theorem fold_len : ∀ (xs L : List Int), (xs.foldl addD L).length ≤ L.length + xs.length
  | [], L => by simp
  | x :: xs, L => by
    rw [List.foldl_cons]
    have h1 := fold_len xs (addD L x)
    have h2 : (addD L x).length ≤ L.length + 1 := by unfold addD; split <;> simp
    simp only [List.length_cons]
    omega
theorem EachS.fresh {n : Nat} {tl : List Int} (h : EachS n tl) {k : Nat} {x : Int} (hx : tl[k]? = some x) : x ∉ tl.take k := fun hm => by
  have h1 := (each_dst h.1 h.range).1 h
  have hk := (List.getElem?_eq_some_iff.1 hx).1
  have h2 : dst (tl.take (k + 1)) = dst (tl.take k) := by rw [dst_succ hx]; unfold addD; rw [if_pos (mem_dst.2 hm)]
  have h3 : dst tl = (tl.drop (k + 1)).foldl addD (dst (tl.take (k + 1))) := by
    unfold dst
    rw [← List.foldl_append, List.take_append_drop]
  have h4 := fold_len (tl.drop (k + 1)) (dst (tl.take (k + 1)))
  rw [← h3, h2, List.length_drop] at h4
  have h5 := dst_len (tl.take k)
  rw [List.length_take] at h5
  have := h.1
  omega
theorem goneB_fresh {n : Nat} {tl : List Int} (h : EachS n tl) {k m : Nat} (hx : tl[k]? = some (m : Int)) : goneB (tl.take k) m = false := decide_eq_false (EachS.fresh h hx)
theorem goneB_succ {tl : List Int} {k m : Nat} (hx : tl[k]? = some (m : Int)) : goneB (tl.take (k + 1)) = pput (goneB (tl.take k)) m := by
  funext z
  unfold goneB pput
  rw [List.take_add_one, hx, Bool.eq_iff_iff, decide_eq_true_iff, Bool.or_eq_true, decide_eq_true_iff, decide_eq_true_iff]
  simp only [Option.toList, List.mem_append, List.mem_singleton]
  constructor
  · rintro (h1 | h1)
    · exact .inl h1
    · exact .inr (by omega)
  · rintro (h1 | h1)
    · exact .inl h1
    · exact .inr (by omega)
/-- the bag of a place -/
noncomputable def bagT (n : Nat) (l : List Ed) (tl : List Int) (i : Nat) : List Int := nw (bagB n l (goneB (tl.take i)) (tl.getD i 0).toNat) n
noncomputable def laterT (n : Nat) (l : List Ed) (tl : List Int) (i : Nat) : List Int := nw (laterB n l (goneB (tl.take i)) (tl.getD i 0).toNat) n
theorem getD_at {tl : List Int} {i m : Nat} (h : tl[i]? = some (m : Int)) : (tl.getD i 0).toNat = m := by rw [List.getD_eq_getElem?_getD, h]; simp
noncomputable def bagsK (n : Nat) (l : List Ed) (tl : List Int) (k : Nat) : List (List Int) := (List.range k).map (bagT n l tl)
theorem bagsK_len (n : Nat) (l : List Ed) (tl : List Int) (k : Nat) : (bagsK n l tl k).length = k := by simp [bagsK]
theorem bagsK_at {n : Nat} {l : List Ed} {tl : List Int} {k i : Nat} (h : i < k) : (bagsK n l tl k)[i]? = some (bagT n l tl i) := by simp [bagsK, h]
noncomputable def bagsR (n : Nat) (l : List Ed) (tl : List Int) (k : Nat) : List (List Int) := bagsK n l tl k ++ List.replicate (n - k) []
theorem bagsR_zero (n : Nat) (l : List Ed) (tl : List Int) : bagsR n l tl 0 = List.replicate n [] := by simp [bagsR, bagsK]
theorem bagsR_len (n : Nat) (l : List Ed) (tl : List Int) {k : Nat} (h : k ≤ n) : (bagsR n l tl k).length = n := by simp [bagsR, bagsK_len]; omega
theorem bagsR_all (n : Nat) (l : List Ed) (tl : List Int) : bagsR n l tl n = bagsK n l tl n := by simp [bagsR]
theorem bagsR_succ (n : Nat) (l : List Ed) (tl : List Int) {k : Nat} (h : k < n) : (bagsR n l tl k).set k (bagT n l tl k) = bagsR n l tl (k + 1) := by
  unfold bagsR
  obtain ⟨m, hm⟩ : ∃ m, n - k = m + 1 := ⟨n - k - 1, by omega⟩
  rw [List.set_append, if_neg (by rw [bagsK_len]; omega), bagsK_len, Nat.sub_self, hm, List.replicate_succ, List.set_cons_zero, show n - (k + 1) = m from by omega]
  unfold bagsK
  rw [List.range_succ, List.map_append, List.append_assoc]
  rfl
theorem bagT_len {n : Nat} {l : List Ed} {tl : List Int} {i m : Nat} (h : tl[i]? = some (m : Int)) (hm : m < n) : (bagT n l tl i).length = (laterT n l tl i).length + 1 := by
  unfold bagT laterT
  rw [getD_at h]
  exact bag_len hm
/-- the width by the first k places -/
noncomputable def widK (n : Nat) (l : List Ed) (tl : List Int) : Nat → Int
  | 0 => -1
  | k + 1 => max (widK n l tl k) ((laterT n l tl k).length : Int)
theorem widK_le (n : Nat) (l : List Ed) (tl : List Int) : ∀ k, -1 ≤ widK n l tl k ∧ widK n l tl k ≤ n
  | 0 => by unfold widK; omega
  | k + 1 => by
    have ih := widK_le n l tl k
    have : (laterT n l tl k).length ≤ n := nw_len _ _
    unfold widK
    omega
def ElimOk (s : Int) (l : List Ed) (tl : List Int) : Prop := P2.Good s l ∧ EachS s.toNat tl
end Go.Proofs.Ytpeobnmfndelhaa.bags

/- The bags of a layout: plain mathematics. -/
namespace Go.Proofs.Ytpeobnmfndelhaa.fronts
open Go.RowKit P2 words edges ints fns sets covs reach bags each
set_option linter.unusedVariables false

/-- the bag of a place of a layout: its node, and the front of those ahead of it -/
noncomputable def lbB (n : Nat) (l : List Ed) (tl : List Int) (i : Nat) : Nat → Bool := pput (frontB l n (goneB (tl.take i))) (tl.getD i 0).toNat
noncomputable def lbT (n : Nat) (l : List Ed) (tl : List Int) (i : Nat) : List Int := nw (lbB n l tl i) n
noncomputable def lbK (n : Nat) (l : List Ed) (tl : List Int) (k : Nat) : List (List Int) := (List.range k).map (lbT n l tl)
theorem lbK_len (n : Nat) (l : List Ed) (tl : List Int) (k : Nat) : (lbK n l tl k).length = k := by simp [lbK]
theorem lbK_at {n : Nat} {l : List Ed} {tl : List Int} {k i : Nat} (h : i < k) : (lbK n l tl k)[i]? = some (lbT n l tl i) := by simp [lbK, h]
theorem lbK_succ (n : Nat) (l : List Ed) (tl : List Int) (k : Nat) : lbK n l tl (k + 1) = lbK n l tl k ++ [lbT n l tl k] := by simp [lbK, List.range_succ]
noncomputable def lbR (n : Nat) (l : List Ed) (tl : List Int) (k : Nat) : List (List Int) := lbK n l tl k ++ List.replicate (n - k) []
theorem lbR_zero (n : Nat) (l : List Ed) (tl : List Int) : lbR n l tl 0 = List.replicate n [] := by simp [lbR, lbK]
theorem lbR_len (n : Nat) (l : List Ed) (tl : List Int) {k : Nat} (h : k ≤ n) : (lbR n l tl k).length = n := by simp [lbR, lbK_len]; omega
theorem lbR_all (n : Nat) (l : List Ed) (tl : List Int) : lbR n l tl n = lbK n l tl n := by simp [lbR]
theorem lbR_succ (n : Nat) (l : List Ed) (tl : List Int) {k : Nat} (h : k < n) : (lbR n l tl k).set k (lbT n l tl k) = lbR n l tl (k + 1) := by
  unfold lbR
  rw [show n - k = (n - (k + 1)) + 1 from by omega, List.replicate_succ, List.set_append_right _ _ (by rw [lbK_len]; exact Nat.le_refl _), lbK_len, Nat.sub_self, List.set_cons_zero, lbK_succ, List.append_assoc]
  rfl
theorem sum_le {rows : List (List Int)} {m : Nat} (h : ∀ r ∈ rows, r.length ≤ m) : (rows.map List.length).sum ≤ rows.length * m := by
  induction rows with
  | nil => simp
  | cons r rs ih =>
    rw [List.map_cons, List.sum_cons, List.length_cons, Nat.succ_mul]
    have h1 := h r (by simp)
    have h2 := ih (fun x hx => h x (by simp [hx]))
    omega
theorem lbK_sum {n : Nat} (l : List Ed) (tl : List Int) (k : Nat) (hn : n ≤ 8) (hk : k ≤ 8) : ((lbK n l tl k).map List.length).sum ≤ 64 := by
  refine Nat.le_trans (sum_le (m := 8) fun r hr => ?_) ?_
  · unfold lbK at hr
    obtain ⟨i, _, rfl⟩ := List.mem_map.1 hr
    exact Nat.le_trans (nw_len _ _) hn
  · rw [lbK_len]; omega
/-- as numbers -/
noncomputable def lbN (n : Nat) (l : List Ed) (tl : List Int) (i : Nat) : Nat := numOf (lbB n l tl i) n
noncomputable def lbU (n : Nat) (l : List Ed) (tl : List Int) (k : Nat) : List Nat := (List.range k).map (lbN n l tl) ++ List.replicate (n - k) 0
theorem lbU_len (n : Nat) (l : List Ed) (tl : List Int) {k : Nat} (h : k ≤ n) : (lbU n l tl k).length = n := by simp [lbU]; omega
theorem lbU_zero (n : Nat) (l : List Ed) (tl : List Int) : lbU n l tl 0 = List.replicate n 0 := by simp [lbU]
theorem lbU_succ (n : Nat) (l : List Ed) (tl : List Int) {k : Nat} (h : k < n) : (lbU n l tl k).set k (lbN n l tl k) = lbU n l tl (k + 1) := by
  unfold lbU
  rw [show n - k = (n - (k + 1)) + 1 from by omega, List.replicate_succ, List.set_append_right _ _ (by simp), List.length_map, List.length_range, Nat.sub_self, List.set_cons_zero, List.range_succ, List.map_append, List.append_assoc]
  rfl
theorem lbU_at {n : Nat} {l : List Ed} {tl : List Int} {k i : Nat} (h : i < k) : (lbU n l tl k)[i]? = some (lbN n l tl i) := by
  unfold lbU
  rw [List.getElem?_append_left (by simp; exact h)]
  simp [h]
theorem lbN_lt (n : Nat) (l : List Ed) (tl : List Int) (i : Nat) (hn : n ≤ 8) : lbN n l tl i < 256 := numOf_lt _ hn

theorem each_at {n : Nat} {tl : List Int} (he : EachS n tl) {x : Nat} (hx : x < n) : ∃ p, p < n ∧ tl[p]? = some (x : Int) := by
  obtain ⟨p, hp⟩ := List.getElem?_of_mem (he.2 x hx)
  exact ⟨p, by have := (List.getElem?_eq_some_iff.1 hp).1; have := he.1; omega, hp⟩
theorem take_at {tl : List Int} {k : Nat} {x : Int} (h : x ∈ tl.take k) : ∃ j, j < k ∧ tl[j]? = some x := by
  obtain ⟨j, hj⟩ := List.getElem?_of_mem h
  rw [List.getElem?_take] at hj
  split at hj
  · rename_i hk; exact ⟨j, hk, hj⟩
  · cases hj
theorem at_take {tl : List Int} {j k : Nat} {x : Int} (h : tl[j]? = some x) (hj : j < k) : x ∈ tl.take k := List.mem_of_getElem? (i := j) (by rw [List.getElem?_take, if_pos hj]; exact h)
/-- places are told by their nodes -/
theorem place_inj {n : Nat} {tl : List Int} (he : EachS n tl) {a b : Nat} {x : Int} (ha : tl[a]? = some x) (hb : tl[b]? = some x) : a = b := by
  rcases Nat.lt_trichotomy a b with h | h | h
  · exact absurd (at_take ha h) (EachS.fresh he hb)
  · exact h
  · exact absurd (at_take hb h) (EachS.fresh he ha)
theorem gone_not {n : Nat} {tl : List Int} (he : EachS n tl) {i b : Nat} {y : Nat} (hb : tl[b]? = some (y : Int)) : goneB (tl.take i) y = false ↔ i ≤ b := by
  unfold goneB
  rw [decide_eq_false_iff_not]
  constructor
  · intro h
    rcases Nat.lt_or_ge b i with hlt | hge
    · exact absurd (at_take hb hlt) h
    · exact hge
  · intro h hm
    obtain ⟨j, hj, hjy⟩ := take_at hm
    have := place_inj he hjy hb
    omega
/-- the model's way: the nodes of the first k places, and the first j neighbors of the next one -/
def LbI (n : Nat) (l : List Ed) (tl : List Int) (i k j : Nat) (p : Nat → Bool) : Prop :=
  ∀ z, z < n → (p z = true ↔ tl[i]? = some (z : Int) ∨ (∃ a, a < k ∧ tl[a]? = some (z : Int) ∧ ∃ b y, i ≤ b ∧ tl[b]? = some y ∧ adj l z y = true) ∨ (tl[k]? = some (z : Int) ∧ ∃ b y, i ≤ b ∧ b < j ∧ tl[b]? = some y ∧ adj l z y = true))
section
variable {n : Nat} {l : List Ed} {tl : List Int} {i k j : Nat} {p : Nat → Bool}
theorem LbI.start {x : Nat} (hx : tl[i]? = some (x : Int)) : LbI n l tl i 0 i (fun z => decide (z = x)) := fun z hz => by
  rw [decide_eq_true_iff, hx]
  constructor
  · rintro rfl; exact .inl rfl
  · rintro (h | ⟨a, ha, _⟩ | ⟨_, b, y, h1, h2, _⟩)
    · have : (x : Int) = (z : Int) := by simpa using h
      omega
    · omega
    · omega
theorem LbI.next (h : LbI n l tl i k tl.length p) : LbI n l tl i (k + 1) i p := fun z hz => by
  rw [h z hz]
  constructor
  · rintro (h1 | ⟨a, ha, h1⟩ | ⟨h1, b, y, h2, h3, h4, h5⟩)
    · exact .inl h1
    · exact .inr (.inl ⟨a, by omega, h1⟩)
    · exact .inr (.inl ⟨k, by omega, h1, b, y, h2, h4, h5⟩)
  · rintro (h1 | ⟨a, ha, h1, b, y, h2, h3, h4⟩ | ⟨_, b, y, h2, h3, _⟩)
    · exact .inl h1
    · by_cases e : a = k
      · subst e; exact .inr (.inr ⟨h1, b, y, h2, (List.getElem?_eq_some_iff.1 h3).1, h3, h4⟩)
      · exact .inr (.inl ⟨a, by omega, h1, b, y, h2, h3, h4⟩)
    · omega
theorem LbI.put {x : Nat} {y : Int} (h : LbI n l tl i k j p) (hx : tl[k]? = some (x : Int)) (hy : tl[j]? = some y) (hij : i ≤ j) (ha : adj l x y = true) : LbI n l tl i k (j + 1) (pput p x) := fun z hz => by
  unfold pput
  rw [Bool.or_eq_true, decide_eq_true_iff, h z hz]
  constructor
  · rintro ((h1 | h1 | ⟨h1, b, y', h2, h3, h4⟩) | rfl)
    · exact .inl h1
    · exact .inr (.inl h1)
    · exact .inr (.inr ⟨h1, b, y', h2, by omega, h4⟩)
    · exact .inr (.inr ⟨hx, j, y, hij, by omega, hy, ha⟩)
  · rintro (h1 | h1 | ⟨h1, b, y', h2, h3, h4⟩)
    · exact .inl (.inl h1)
    · exact .inl (.inr (.inl h1))
    · rw [hx] at h1
      have : (x : Int) = (z : Int) := by simpa using h1
      exact .inr (by omega)
theorem LbI.skip {x : Nat} {y : Int} (h : LbI n l tl i k j p) (hx : tl[k]? = some (x : Int)) (hy : tl[j]? = some y) (ha : adj l x y = false) : LbI n l tl i k (j + 1) p := fun z hz => by
  rw [h z hz]
  constructor
  · rintro (h1 | h1 | ⟨h1, b, y', h2, h3, h4⟩)
    · exact .inl h1
    · exact .inr (.inl h1)
    · exact .inr (.inr ⟨h1, b, y', h2, by omega, h4⟩)
  · rintro (h1 | h1 | ⟨h1, b, y', h2, h3, h4, h5⟩)
    · exact .inl h1
    · exact .inr (.inl h1)
    · refine .inr (.inr ⟨h1, b, y', h2, ?_, h4, h5⟩)
      by_cases e : b = j
      · subst e
        rw [hx] at h1; rw [hy] at h4
        have e1 : (x : Int) = (z : Int) := by simpa using h1
        cases h4
        rw [e1, h5] at ha
        cases ha
      · omega
theorem LbI.all (he : EachS n tl) (hg : P2.Good (n : Int) l) (hi : i < n) (h : LbI n l tl i i i p) : nw p n = lbT n l tl i := reach.nw_congr fun z hz => by
  obtain ⟨pz, hpz, hz2⟩ := each_at he hz
  rw [Bool.eq_iff_iff, h z hz]
  unfold lbB pput
  rw [Bool.or_eq_true, decide_eq_true_iff, frontB_iff]
  have hi0 : tl[i]? = some (z : Int) → z = (tl.getD i 0).toNat := fun h1 => (getD_at h1).symm
  constructor
  · rintro (h1 | ⟨a, ha, h1, b, y, h2, h3, h4⟩ | ⟨h1, b, y, h2, h3, _⟩)
    · exact .inr (hi0 h1)
    · have hn := (adj_node hg h4).2
      refine .inl ⟨decide_eq_true (at_take h1 ha), y.toNat, by omega, ?_, ?_⟩
      · exact (gone_not he (by rw [show ((y.toNat : Nat) : Int) = y from by omega]; exact h3)).2 h2
      · rw [show ((y.toNat : Nat) : Int) = y from by omega]; exact h4
    · omega
  · rintro (⟨h1, y, hy, h2, h3⟩ | h1)
    · obtain ⟨a, ha, h4⟩ := take_at (of_decide_eq_true h1)
      obtain ⟨b, hb, hby⟩ := each_at he hy
      exact .inr (.inl ⟨a, ha, h4, b, (y : Int), (gone_not he hby).1 h2, hby, h3⟩)
    · obtain ⟨x, hx⟩ : ∃ x, tl[i]? = some x := ⟨_, List.getElem?_eq_getElem (by rw [he.1]; exact hi)⟩
      have hr := he.range x (List.mem_of_getElem? hx)
      have h5 : (tl.getD i 0).toNat = x.toNat := by rw [List.getD_eq_getElem?_getD, hx]; rfl
      refine .inl ?_
      rw [hx, h1, h5]
      congr 1
      omega
end
end Go.Proofs.Ytpeobnmfndelhaa.fronts
