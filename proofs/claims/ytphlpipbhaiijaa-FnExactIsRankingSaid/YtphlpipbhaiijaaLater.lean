/- The contract of the model's l5Later. -/
import Derived.Handy
import Derived.Test.YtphlpipbhaiijaaBagM
import Derived.Test.YtphlpipbhaiijaaBall
import Derived.Test.YtphlpipbhaiijaaMid
import Derived.Maps.AppendAt
import Derived.StillTailTactics
namespace Go.Proofs.Ytphlpipbhaiijaa.bags
open Go.RowKit P2 words edges ints good adjs fns sets apps covs neigh balls reach
set_option linter.unusedVariables false

theorem apart_or {u v : Value} (h : ∀ k, u.ownBlock = some k → v.ownBlock ≠ some k) : v.ownBlock = none ∨ v.ownBlock ≠ u.ownBlock := by
  cases hv : v.ownBlock with
  | none => exact .inl rfl
  | some q => exact .inr fun e => h q e.symm hv
theorem apart_grow {u u' v : Value} {H : Nat} (h : ∀ k, u.ownBlock = some k → v.ownBlock ≠ some k) (hl : u'.ownBlock = u.ownBlock ∨ u'.ownBlock = some H) (hv : ∀ k, v.ownBlock = some k → k < H) : ∀ k, u'.ownBlock = some k → v.ownBlock ≠ some k := fun k hk hk' => by
  rcases hl with e | e
  · exact h k (e.symm.trans hk) hk'
  · rw [e] at hk
    cases hk
    exact Nat.lt_irrefl _ (hv _ hk')
def nodesL (S : List Nat) : List Int := S.map fun x : Nat => (x : Int)
theorem mem_nodesL {S : List Nat} {y : Nat} : (y : Int) ∈ nodesL S ↔ y ∈ S := by
  unfold nodesL
  rw [List.mem_map]
  constructor
  · rintro ⟨z, hz, e⟩
    obtain rfl : z = y := by omega
    exact hz
  · intro h; exact ⟨y, h, rfl⟩
theorem nodesL_len (S : List Nat) : (nodesL S).length = S.length := by simp [nodesL]
theorem nodesL_at {S : List Nat} {k z : Nat} (h : S[k]? = some z) : (nodesL S)[k]? = some (z : Int) := by simp [nodesL, h]
theorem nodesL_app (S : List Nat) (y : Nat) : nodesL (S ++ [y]) = nodesL S ++ [(y : Int)] := by simp [nodesL]
def goneB (gl : List Int) (z : Nat) : Bool := decide ((z : Int) ∈ gl)
theorem nw_none (n : Nat) : nw (fun _ => false) n = [] := by
  induction n with
  | zero => rfl
  | succ n ih => rw [nw_no rfl, ih]

set_option maxHeartbeats 8000000 in
set_option maxRecDepth 100000 in
theorem l5Later_any (n x : Nat) (gl : List Int) (v u : Value) (l : List Ed) (w : World) (h : Edges w v l) (hl : l.length ≤ 1048576) (hu : Ints w u gl) (hgl : gl.length ≤ 1048576) (hn8 : n ≤ 8) (hx : x < n) :
    Calls Try.prog 126 #[.agg #[.int .i64 (n : Int), v], u, .int .i64 (x : Int)] w (RowI w (nw (laterB n l (goneB gl) x) n)) := by
  obtain ⟨i0, hi, hz0, hz1, hz2⟩ := info_parts infoInt
  obtain ⟨A, c, rfl, -⟩ := h.form
  obtain ⟨A2, c2, rfl, -⟩ := hu.form
  have H := Lib.hid h
  have HU := Lib.hid hu
  have b1 : Below w.heap.size w (w.alloc (.cells #[.int .i64 (n : Int), .slice A l.length c] 29)) := (Below.refl _ _).alloc (Nat.le_refl _) _
  have HB0 : Hid (Below w.heap.size w (((w.alloc (.cells #[.int .i64 (n : Int), .slice A l.length c] 29)).alloc (.cells #[] 3)).alloc (.cells #[.int .i64 (x : Int)] 3))) := (b1.alloc (by simp) _).alloc (by simp; omega) _
  have HG0 := Lib.hid (((Blk.new w 29 #[.int .i64 (n : Int), .slice A l.length c]).alloc (.cells #[] 3)).alloc (.cells #[.int .i64 (x : Int)] 3))
  have HO0 : Hid ((((w.alloc (.cells #[.int .i64 (n : Int), .slice A l.length c] 29)).alloc (.cells #[] 3)).alloc (.cells #[.int .i64 (x : Int)] 3)).ownsRow w.heap.size 3 1 (.slice (some ⟨w.heap.size + 1, 0, none⟩) 0 0) (nw (fun _ => false) n).length (cellsI (nw (fun _ => false) n))) := by
    show World.ownsRow _ _ _ _ _ _ _
    rw [nw_none]
    have h_ := (own_new0 (w.alloc (.cells #[.int .i64 (n : Int), .slice A l.length c] 29)) 3 1).alloc (.cells #[.int .i64 (x : Int)] 3)
    rw [World.size_alloc] at h_
    exact own_base h_ (by omega)
  have HS0 : Hid ((((w.alloc (.cells #[.int .i64 (n : Int), .slice A l.length c] 29)).alloc (.cells #[] 3)).alloc (.cells #[.int .i64 (x : Int)] 3)).ownsRow w.heap.size 3 1 (.slice (some ⟨w.heap.size + 1 + 1, 0, none⟩) 1 1) (nodesL [x]).length (cellsI (nodesL [x]))) := by
    have h_ := own_new1 ((w.alloc (.cells #[.int .i64 (n : Int), .slice A l.length c] 29)).alloc (.cells #[] 3)) 3 (x : Int)
    rw [World.size_alloc, World.size_alloc] at h_
    exact own_base h_ (by omega)
  have HL0 : Hid (Later n l (goneB gl) x 0 0 [x] (fun _ => false)) := Later.start hx
  have HA0 : Hid (∀ k, (Value.slice (some ⟨w.heap.size + 1 + 1, 0, none⟩) 1 1).ownBlock = some k → (Value.slice (some ⟨w.heap.size + 1, 0, none⟩) 0 0).ownBlock ≠ some k) := fun k hk hk' => by
    simp [Value.ownBlock] at hk hk'
    omega
  have HX := Lib.hid hx
  clear h hu b1
  go_enter Try.func126, Try.ntmps126
  go_wp2_with fail
  go_loopg [7, 8, 9] (n + 1) (fun g ov sv kv wr => ∃ (k : Nat) (S : List Nat) (o : Nat → Bool) (ow sw : Value), ow = ov ∧ sw = sv ∧ k + g = n + 1 ∧ k ≤ S.length ∧ kv = .int .i64 (k : Int) ∧ Hid (Later n l (goneB gl) x k 0 S o) ∧
    wr.ownsRow w.heap.size 3 1 ow (nw o n).length (cellsI (nw o n)) ∧ wr.ownsRow w.heap.size 3 1 sw (nodesL S).length (cellsI (nodesL S)) ∧ Hid (∀ k, sw.ownBlock = some k → ow.ownBlock ≠ some k) ∧
    Blk wr w.heap.size 29 #[.int .i64 (n : Int), .slice A l.length c] ∧ Below w.heap.size w wr)
  case atStart => exact ⟨0, [x], _, _, _, rfl, rfl, by omega, by simp, rfl, HL0, HO0.out, HS0.out, HA0, HG0.out, HB0.out⟩
  case round =>
    clear HB0 HG0 HO0 HS0 HL0 HA0
    obtain ⟨k, S, o, ow, sw, rfl, rfl, hkg, hkS, rfl, hlt, hro, hrs, hap, hgb, hB⟩ := hrel
    have hSl := hlt.out.len
    have hSn := nodesL_len S
    obtain ⟨A3, c3, rfl⟩ := own_form hrs
    by_cases hk : k < S.length
    · obtain ⟨z, hz⟩ : ∃ z, S[k]? = some z := ⟨_, List.getElem?_eq_getElem hk⟩
      have hzn := (hlt.out.seen z (List.mem_of_getElem? hz)).1
      have hk' : (k : Int) < ((nodesL S).length : Int) := by omega
      obtain ⟨g2, rfl⟩ : ∃ g2, gk = g2 + 1 := ⟨gk - 1, by omega⟩
      obtain ⟨_, _, hf, hcc⟩ := (show Ints wr (.slice A3 (nodesL S).length c3) (nodesL S) from Reads.of_own hrs).form
      cases hf
      obtain ⟨g3, o3, rfl, q3⟩ := hcc k _ (nodesL_at hz)
      obtain ⟨p0, p1, -, -⟩ := hgb.two
      have HNB := Lib.hid (neigh.l2Neighbors_any n (z : Int) (.slice A l.length c) l wr.drew (H.out.below hB.drew) hl hn8)
      have HRO := Lib.hid hro
      have HRS := Lib.hid hrs
      have HG := Lib.hid hgb
      have HB := Lib.hid hB
      have HZ := Lib.hid hz
      have HSN := Lib.hid hSn
      have HNL := nw_len (fun y => adj l (z : Int) y) n
      clear hro hrs hgb hB hz hcc hSn
      generalize hNN : nw (fun y => adj l (z : Int) y) n = N1 at HNB HNL
      have HN1 := Lib.hid hNN
      clear hNN
      go_wp2_with fail
      go_still_tail 5, (by kernel_rfl)
      change wpList _ _ _ _ _ wr.drew
      go_wp2_with fail
      refine HNB.out.mono ?_
      rintro e w3 ⟨A5, c5, rfl, o5, b5⟩
      have d5 : Below wr.heap.size wr w3 := (Below.refl _ _).drew.trans b5
      have HO5 := Lib.hid (own_base (B' := w.heap.size) o5 HB.out.size)
      have HRO3 := Lib.hid (own_below HRO.out d5)
      have HRS3 := Lib.hid (own_below HRS.out d5)
      have HG3 := Lib.hid (HG.out.below d5 HG.out.lt)
      have HB3 := Lib.hid (btrans HB.out d5)
      have HAP3 : Hid (∀ k, (Value.slice (some ⟨g3, o3, none⟩) (nodesL S).length c3).ownBlock = some k → (Value.slice A5 N1.length c5).ownBlock ≠ some k) := fun q hq hq' => by
        have h1 := (HRS.out.lt q hq).2
        have h2 := (o5.lt q hq').1
        have h3 : wr.heap.size = wr.drew.heap.size := rfl
        omega
      clear HNB o5 b5 d5 p0 p1 q3 HRO HRS HG
      go_wp2_with fail
      go_loopg [7, 8, 11] N1.length (fun g ov sv iv wi => ∃ (i : Nat) (S : List Nat) (o : Nat → Bool) (ow sw : Value), ow = ov ∧ sw = sv ∧ i + g = N1.length ∧ iv = .int .i64 (i : Int) ∧ Hid (Later n l (goneB gl) x k i S o ∧ S[k]? = some z) ∧
        wi.ownsRow w.heap.size 3 1 ow (nw o n).length (cellsI (nw o n)) ∧ wi.ownsRow w.heap.size 3 1 sw (nodesL S).length (cellsI (nodesL S)) ∧ wi.ownsRow w.heap.size 3 1 (.slice A5 N1.length c5) N1.length (cellsI N1) ∧
        Hid (∀ k, sw.ownBlock = some k → ow.ownBlock ≠ some k) ∧ Hid (∀ k, sw.ownBlock = some k → (Value.slice A5 N1.length c5).ownBlock ≠ some k) ∧
        Blk wi w.heap.size 29 #[.int .i64 (n : Int), .slice A l.length c] ∧ Below w.heap.size w wi)
      case atStart => exact ⟨0, S, o, _, _, rfl, rfl, by omega, rfl, ⟨hlt.out, HZ.out⟩, HRO3.out, HRS3.out, HO5.out, hap, HAP3, HG3.out, HB3.out⟩
      case round =>
        clear HRO3 HRS3 HG3 HB3 HAP3 HO5 hap hlt HZ HSN hk hk' hSl HB
        obtain ⟨i, S, o, ow, sw, rfl, rfl, hig, rfl, hlt, hro, hrs, hr5, hap, hap5, hgb, hB⟩ := hrel
        have hSl := hlt.out.1.len
        have hSn := nodesL_len S
        have hol := nw_len o n
        obtain ⟨A3, c3, rfl⟩ := own_form hrs
        obtain ⟨A4, c4, rfl⟩ := own_form hro
        cases gk with
        | zero =>
          obtain rfl : i = N1.length := by omega
          have HKS : Hid (k + 1 ≤ S.length) := (List.getElem?_eq_some_iff.1 hlt.out.2).1
          have HN : Hid (Later n l (goneB gl) x (k + 1) 0 S o) := hlt.out.1.next hlt.out.2 (by rw [HN1.out]; omega)
          have HRO := Lib.hid hro
          have HRS := Lib.hid hrs
          have HG := Lib.hid hgb
          have HB := Lib.hid hB
          clear hro hrs hr5 hgb hB hSn hSl hol
          go_wp2_with fail
          go_roundg g2
          case measure => omega
          case rel => exact ⟨k + 1, S, o, _, _, rfl, rfl, by omega, HKS.out, by go_num, HN, HRO.out, HRS.out, hap, HG.out, HB.out⟩
        | succ g4 =>
          have hit : (i : Int) < (N1.length : Int) := by omega
          obtain ⟨yv, hyv⟩ : ∃ yv, N1[i]? = some yv := ⟨_, List.getElem?_eq_getElem (by omega)⟩
          obtain ⟨y, rfl, hyn, hay⟩ := nw_at (by rw [HN1.out]; exact hyv : (nw (fun y => adj l (z : Int) y) n)[i]? = some yv)
          obtain ⟨_, _, hf, hcc⟩ := (show Ints wr (.slice A5 N1.length c5) N1 from Reads.of_own hr5).form
          cases hf
          obtain ⟨g5, o5, rfl, q5⟩ := hcc i _ hyv
          have HY : Hid ((nw (fun y => adj l (z : Int) y) n)[i]? = some (y : Int)) := by show _ = _; rw [HN1.out]; exact hyv
          have HH1 := Lib.hid (l1Has_any (.slice A3 (nodesL S).length c3) (nodesL S) (y : Int) wr (Reads.of_own hrs) (by omega))
          have HH2 := Lib.hid (l1Has_any (.slice A2 gl.length c2) gl (y : Int) wr (HU.out.below hB) hgl)
          have HPU := Lib.hid (l1Put_both (.slice A4 (nw o n).length c4) (nw o n) (y : Int) wr (Reads.of_own hro) (by omega) (covs.nw_asc _ _))
          have HLT := Lib.hid hlt.out
          have HLO := Lib.hid hro.lt
          have HLS := Lib.hid hrs.lt
          have HL5 := Lib.hid hr5.lt
          have HRO := Lib.hid hro
          have HR5 := Lib.hid hr5
          have HG := Lib.hid hgb
          have HB := Lib.hid hB
          have HSN := Lib.hid hSn
          have hsl8 : (nodesL S).length ≤ 8 := by omega
          have hsz := hB.size
          clear hro hr5 hgb hB hcc hyv hay hlt hSn
          by_cases hm : y ∈ S
          · rw [show decide ((y : Int) ∈ nodesL S) = true from decide_eq_true (mem_nodesL.2 hm)] at HH1
            have HN : Hid (Later n l (goneB gl) x k (i + 1) S o ∧ S[k]? = some z) := ⟨HLT.out.1.skip HLT.out.2 HY.out hm, HLT.out.2⟩
            have HRS := Lib.hid hrs
            clear hm hrs HPU HH2
            go_wp2_with fail
            refine HH1.out.mono ?_
            rintro e w' ⟨rfl, rfl⟩
            go_wp2_with fail
            go_roundg g4
            case measure => omega
            case rel => exact ⟨i + 1, S, o, _, _, rfl, rfl, by omega, by go_num, HN, HRO.out, HRS.out, HR5.out, hap, hap5, HG.out, HB.out⟩
          · rw [show decide ((y : Int) ∈ nodesL S) = false from decide_eq_false (fun hh => hm (mem_nodesL.1 hh))] at HH1
            cases hG : goneB gl y with
            | true =>
              rw [show decide ((y : Int) ∈ gl) = true from hG] at HH2
              have HN : Hid (Later n l (goneB gl) x k (i + 1) (S ++ [y]) o ∧ (S ++ [y])[k]? = some z) := ⟨HLT.out.1.see HLT.out.2 HY.out hm hG, by
                rw [List.getElem?_append_left (List.getElem?_eq_some_iff.1 HLT.out.2).1]; exact HLT.out.2⟩
              have HNA := Lib.hid (nodesL_app S y)
              clear hm hG HPU
              generalize nodesL S = m at *
              go_wp2_with fail
              refine HH1.out.mono ?_
              rintro e w' ⟨rfl, rfl⟩
              go_wp2_with fail
              refine HH2.out.mono ?_
              rintro e w' ⟨rfl, rfl⟩
              go_wp2_with (at_builtin; refine wpList_append_own_at _ rfl _ _ 25 rfl (w.heap.size) 3 i0 (.int .i64 0) 1 8 Try.underlying25 hi hz0 hz1 hz2 rfl (by decide) _ _ _ rfl (hrs.alloc _) ⟨wr.heap.size, 0, none⟩ 1 1 [.int .i64 ((y : Int))] rfl rfl (cell_one_new _ _ _) (fun x hx => by simp at hx; subst hx; rfl) (by unfold maxLen; omega) (by omega) (by simp; omega) ?_; intro v2 w2 hown2 hgrow2 _ hl2)
              have HROA := Lib.hid ((HRO.out.alloc (.cells #[.int .i64 (y : Int)] 3)).kept hgrow2 (apart_or hap.out))
              have HR5A := Lib.hid ((HR5.out.alloc (.cells #[.int .i64 (y : Int)] 3)).kept hgrow2 (apart_or hap5.out))
              have HAPA : Hid (∀ k, v2.ownBlock = some k → (Value.slice A4 (nw o n).length c4).ownBlock ≠ some k) := apart_grow hap.out hl2 (fun q hq => by have := (HLO.out q hq).2; simp; omega)
              have HAP5A : Hid (∀ k, v2.ownBlock = some k → (Value.slice (some ⟨g5, o5, none⟩) N1.length c5).ownBlock ≠ some k) := apart_grow hap5.out hl2 (fun q hq => by have := (HL5.out q hq).2; simp; omega)
              obtain ⟨hown3, hB2⟩ := push1 hrs hown2 hgrow2 HB.out.size
              rw [← HNA.out] at hown3
              have HB6 := Lib.hid (HB.out.trans hB2)
              have HG7 := Lib.hid ((HG.out.alloc (.cells #[.int .i64 (y : Int)] 3)).grown hgrow2 (fun e => mids.own_ne hrs HG.out (by decide) e.symm))
              have HO6 := Lib.hid hown3
              clear hgrow2 hown2 hown3 hB2 hl2 hrs
              go_roundg g4
              case measure => omega
              case rel => exact ⟨i + 1, S ++ [y], o, _, _, rfl, rfl, by omega, by go_num, HN, HROA.out, HO6.out, HR5A.out, HAPA, HAP5A, HG7.out, HB6.out⟩
            | false =>
              rw [show decide ((y : Int) ∈ gl) = false from hG] at HH2
              have HN : Hid (Later n l (goneB gl) x k (i + 1) S (pput o y) ∧ S[k]? = some z) := ⟨HLT.out.1.put HLT.out.2 HY.out hm hG, HLT.out.2⟩
              have HRS := Lib.hid hrs
              have HYN := Lib.hid hyn
              clear hm hG hrs
              go_wp2_with fail
              refine HH1.out.mono ?_
              rintro e w' ⟨rfl, rfl⟩
              go_wp2_with fail
              refine HH2.out.mono ?_
              rintro e w' ⟨rfl, rfl⟩
              go_wp2_with fail
              refine HPU.out.mono ?_
              rintro e w7 ⟨L, A7, c7, rfl, hp7, -, b7, h7⟩
              have HL := Lib.hid (pput_is hp7 HYN.out)
              have HO7 : Hid (w7.ownsRow w.heap.size 3 1 (.slice A7 L.length c7) L.length (cellsI L)) := by
                rcases h7 with ⟨rfl, e7, e8⟩ | h7
                · show World.ownsRow _ _ _ _ _ _ _
                  rw [e7, e8]; exact HRO.out
                · exact own_base h7 HB.out.size
              have HAP7 : Hid (∀ k, (Value.slice A3 (nodesL S).length c3).ownBlock = some k → (Value.slice A7 L.length c7).ownBlock ≠ some k) := by
                rcases h7 with ⟨rfl, e7, e8⟩ | h7
                · show ∀ k, _
                  rw [e7]; exact hap.out
                · intro q hq hq'
                  have h1 := (HLS.out q hq).2
                  have h2 := (h7.lt q hq').1
                  omega
              have HRS7 := Lib.hid (own_below HRS.out b7)
              have HR57 := Lib.hid (own_below HR5.out b7)
              have HG7 := Lib.hid (HG.out.below b7 HG.out.lt)
              have HB7 := Lib.hid (btrans HB.out b7)
              clear b7 hp7 h7
              go_wp2_with fail
              go_roundg g4
              case measure => omega
              case rel => exact ⟨i + 1, S, pput o y, _, _, rfl, rfl, by omega, by go_num, HN, by rw [← HL.out]; exact HO7.out, HRS7.out, HR57.out, by first | exact HAP7 | (rw [← HL.out]; exact HAP7), hap5, HG7.out, HB7.out⟩
    · have hk' : ¬ (k : Int) < ((nodesL S).length : Int) := by omega
      have dk : decide ((k : Int) < ((nodesL S).length : Int)) = false := decide_eq_false hk'
      have HALL : Hid (nw o n = nw (laterB n l (goneB gl) x) n) := by
        obtain rfl : k = S.length := by omega
        exact hlt.out.all HX.out
      obtain ⟨A4, c4, rfl⟩ := own_form hro
      have HR := Lib.hid hro
      have HB := Lib.hid hB
      clear hro hrs hgb hB hSl
      go_wp2_with fail
      go_ret
      rw [← HALL.out]
      exact ⟨A4, c4, rfl, HR.out, HB.out⟩
end Go.Proofs.Ytphlpipbhaiijaa.bags
