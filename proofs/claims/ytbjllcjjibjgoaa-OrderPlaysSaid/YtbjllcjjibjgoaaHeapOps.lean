/-
  LAYER 13: Push, Pop, Bump and New, over a heap whose scores and members are known.
-/
import Derived.Test.YtbjllcjjibjgoaaHeapSink
import Derived.ArgAppend
import Derived.Laws.MakeOwn
namespace Go.Proofs.Ytbjllcjjibjgoaa.Hp
open Go.RowKit Go.Proofs.Ytbjllcjjibjgoaa.Ln

theorem HMem.wrote_len {w : World} {m : Hm} {N : Nat} {S : List Nat} {P : List Int} {R : List Nat} {n : Nat} (h : HMem w m N S P R n) {n' : Nat} (hn : n' ≤ N) : HMem (w.setCell ⟨m.p, 2, none⟩ (.slice (some ⟨m.t, 0, none⟩) n' N)) m N S P R n' :=
  { h with le := hn, head := h.head.set 2 _, scores := h.scores.other h.ps.symm _, places := h.places.other h.pl.symm _, tree := h.tree.other h.pt.symm _ }

/-- a heap, whose scores and members are those -/
def Heap (w : World) (m : Hm) (N : Nat) (S : List Nat) (I : List Bool) : Prop := Laid m N S I (cnt I) 0 w ∧ ∀ v, S.getD v 0 ≤ 1099511627776
theorem Heap.only {w w' : World} {m : Hm} {N : Nat} {S : List Nat} {I : List Bool} (h : Heap w m N S I) {F : Nat → Prop} (ho : Only F w w') (hf : ∀ b, m.own b → ¬ F b) : Heap w' m N S I := by
  obtain ⟨⟨P, R, h1, h2, h3⟩, h4⟩ := h
  exact ⟨⟨P, R, h1.only ho hf, h2, h3⟩, h4⟩
theorem Heap.below {w w' : World} {m : Hm} {N : Nat} {S : List Nat} {I : List Bool} (h : Heap w m N S I) (hb : Below w.heap.size w w') : Heap w' m N S I := by
  obtain ⟨⟨P, R, h1, h2, h3⟩, h4⟩ := h
  exact ⟨⟨P, R, h1.below hb, h2, h3⟩, h4⟩

theorem len_at {w : World} {m : Hm} {N : Nat} {S : List Nat} {I : List Bool} (h : Heap w m N S I) :
    Calls Try.prog 19 #[.pointer (some ⟨m.p, 0, none⟩)] w fun e w' => e = .returned (.int .i64 (cnt I : Int)) ∧ w = w' := by
  obtain ⟨⟨P, R, h1, h2, h3⟩, h4⟩ := h
  exact len_any h1

def isV (N : Nat) (I : List Bool) (v : Int) : Bool := knowsV N v && I.getD v.toNat false
theorem has_is {N n : Nat} {I : List Bool} {P : List Int} {R : List Nat} (h : Pl N I P (R.take n)) (v : Int) : hasV N P v = isV N I v := by
  unfold hasV isV
  cases hk : knowsV N v
  · rfl
  · have hv := of_decide_eq_true hk
    rcases h.place v.toNat (by omega) (by omega) with ⟨a, b, _, _⟩ | ⟨a, b⟩
    · rw [a, Bool.true_and, Bool.true_and]; exact decide_eq_true (by omega)
    · rw [a, b]; rfl
theorem has_at {w : World} {m : Hm} {N : Nat} {S : List Nat} {I : List Bool} (h : Heap w m N S I) (v : Int) :
    Calls Try.prog 20 #[.pointer (some ⟨m.p, 0, none⟩), .int .i64 v] w fun e w' => e = .returned (.bool (isV N I v)) ∧ w = w' := by
  obtain ⟨⟨P, R, h1, h2, h3⟩, h4⟩ := h
  have := has_any h1 v
  rwa [has_is h2 v] at this
theorem score_at {w : World} {m : Hm} {N : Nat} {S : List Nat} {I : List Bool} (h : Heap w m N S I) (v : Int) :
    Calls Try.prog 21 #[.pointer (some ⟨m.p, 0, none⟩), .int .i64 v] w fun e w' => e = .returned (.int .i64 (scoreV N S v : Nat)) ∧ w = w' := by
  obtain ⟨⟨P, R, h1, h2, h3⟩, h4⟩ := h
  exact score_any h1 v

/-- what a call that changes the heap leaves -/
def Did (m : Hm) (N : Nat) (S : List Nat) (I : List Bool) (v : Value) (w : World) (e : Ending) (w' : World) : Prop := e = .returned v ∧ Only m.own w w' ∧ Heap w' m N S I

def pushI (N : Nat) (I : List Bool) (v : Int) : List Bool := if knowsV N v then I.set v.toNat true else I

theorem Did.mk {m : Hm} {N : Nat} {S : List Nat} {I : List Bool} {v u : Value} {w w' : World} (hv : u = v) (ho : Only m.own w w') (h : Heap w' m N S I) : Did m N S I v w (.returned u) w' := ⟨by rw [hv], ho, h⟩

theorem infoI : (Try.prog.info? 3).map (fun i => (i.zero, i.size, i.bytes)) = some (some (.int .i64 0), 1, 8) := by kernel_rfl

set_option maxHeartbeats 2000000 in
theorem push_at {w : World} {m : Hm} {N : Nat} {S : List Nat} {I : List Bool} (h : Heap w m N S I) (v : Int) :
    Calls Try.prog 12 #[.pointer (some ⟨m.p, 0, none⟩), .int .i64 v] w (Did m N S (pushI N I v) (.tuple #[]) w) := by
  cases hk : knowsV N v
  · have E := hid (show pushI N I v = I by unfold pushI; rw [hk]; rfl)
    obtain ⟨⟨P, R, h1, h2, h3⟩, h4⟩ := id h
    have H1 := hid h1
    have HH := hid h
    have HK := hid hk
    clear h h1 h2 h3 h4 hk
    go_enter Try.func12, Try.ntmps12
    go_wp2_with fail
    refine (knows_any H1.out v).mono ?_
    rintro e w' ⟨rfl, rfl⟩
    rw [HK.out]
    go_wp2
    go_end0
    exact ⟨rfl, Only.refl _ _, by rw [E.out]; exact HH.out⟩
  · have hv := of_decide_eq_true hk
    obtain ⟨k, rfl⟩ : ∃ k : Nat, v = (k : Int) := ⟨v.toNat, by omega⟩
    cases hi : I.getD k false
    · have E := hid (show pushI N I k = I.set k true by unfold pushI; rw [hk]; rfl)
      obtain ⟨⟨P, R, h1, h2, h3⟩, h4⟩ := id h
      have HS := hid (has_is h2 (k : Int))
      have HI := hid (show isV N I (k : Int) = false by unfold isV; rw [hk, Int.toNat_natCast, hi]; rfl)
      have hroom := cnt_room h2.zero (show 1 ≤ k by omega) (by rw [h2.lenI]; omega) hi
      rw [h2.lenI] at hroom
      have H1 := hid h1
      have HK := hid hk
      have H4 := hid h4
      have hlen : (R.take (cnt I)).length = cnt I := by have := h1.lenR; simp; omega
      have hpu := h2.push (v := k) (by omega) (by omega) hi
      have hup := Up.push h3 k
      rw [hlen] at hpu hup
      have hcs := cnt_set (I := I) (v := k) (by rw [h2.lenI]; omega) true
      rw [hi] at hcs
      simp at hcs
      have HC := hid hcs
      have hsm := h1.small
      have HP := hid (And.intro hpu hup)
      have hlR := hid h1.lenR
      have c2 := h1.head.cell 2 rfl
      have ct := h1.node (show cnt I < N by omega)
      have ft := h1.tree.free (cnt I)
      have bt := h1.tree.lt
      have bp := h1.head.lt
      have fp := h1.head.free 2
      have npt := h1.pt
      have ntp := h1.pt.symm
      clear h h1 h2 h3 h4 hk hpu hup hcs hlen hi
      generalize hn : cnt I = n at *
      have HN := hid hn
      clear hn
      obtain ⟨i0, q1, q2, q3, q4⟩ := info_parts infoI
      have hap : (Builtin.append_ #[34, 34] 34 #[.slice (some ⟨m.t, 0, none⟩) n N, .slice (some ⟨w.heap.size, 0, none⟩) 1 1]).run Try.prog (w.alloc (.cells #[.int .i64 (k : Int)] 3)) =
          .ok (.slice (some ⟨m.t, 0, none⟩) (n + 1) N) ((w.alloc (.cells #[.int .i64 (k : Int)] 3)).setCell ⟨m.t, n, none⟩ (.int .i64 (k : Int))) := by
        have h := run_append_room_cells (P := Try.prog) (w.alloc (.cells #[.int .i64 (k : Int)] 3)) 34 34 3 i0 Try.underlying34 q1 m.t 0 n N ⟨w.heap.size, 0, none⟩ 1 1 [.int .i64 (k : Int)] (by rw [q3]; rfl)
          (cell_one_new w _ _) (by simp [Value.oneCell']) (by omega) (by
            intro j hj
            obtain rfl : j = 0 := by simpa using hj
            rw [q3, World.cell?_alloc_lt _ _ _ bt]
            simp [ct]) (by
            intro j hj
            obtain rfl : j = 0 := by simpa using hj
            rw [q3, World.frozen?_alloc_past _ _ _ bt]
            simpa using ft)
        rw [q3] at h
        simpa [World.setCells] using h
      clear q1 q2 q3 q4
      go_enter Try.func12, Try.ntmps12
      go_wp2_with fail
      refine (knows_any H1.out _).mono ?_
      rintro e w' ⟨rfl, rfl⟩
      rw [HK.out]
      go_wp2_with fail
      refine (has_any H1.out _).mono ?_
      rintro e w' ⟨rfl, rfl⟩
      rw [HS.out, HI.out]
      go_wp2_with fail
      have hg : (R.set n k).getD n 0 = k := by have := hlR.out; rw [getD_set, if_pos ⟨rfl, by omega⟩]
      have htk : (R.set n k).take (n + 1) = R.take n ++ [k] := by
        have hl := hlR.out
        rw [List.take_succ_eq_append_getElem (by simp; omega)]
        rw [List.take_set_of_le (by omega)]
        simp
      refine (rise_any (I := I.set k true) (S := S) ((((H1.out.wrote_node n k).wrote_len (n' := n + 1) (by omega))).below ((Below.refl _ _).alloc (Nat.le_refl _) _)) n (by omega) (by rw [hg, htk]; exact HP.out.1) (by rw [htk]; exact HP.out.2)).mono ?_
      rintro e w' ⟨rfl, ho, hl⟩
      have HO := hid ho
      have HL := hid hl
      clear ho hl hap
      go_wp2
      go_end0
      refine ⟨rfl, ?_, ?_⟩
      · exact (((((Only.refl _ _).setCell (.inr (.inr (.inr rfl))) _).setCell (.inl rfl) _).alloc _).trans HO.out)
      · rw [E.out]
        refine ⟨?_, H4.out⟩
        rw [HC.out]; exact HL.out
    · have E := hid (show pushI N I k = I by
        unfold pushI; rw [hk, Int.toNat_natCast, if_pos rfl]
        have := set_same I k false
        rwa [hi] at this)
      obtain ⟨⟨P, R, h1, h2, h3⟩, h4⟩ := id h
      have HS := hid (has_is h2 (k : Int))
      have HI := hid (show isV N I (k : Int) = true by unfold isV; rw [hk, Int.toNat_natCast, hi]; rfl)
      have H1 := hid h1
      have HK := hid hk
      have HH := hid h
      clear h h1 h2 h3 h4 hk hi
      go_enter Try.func12, Try.ntmps12
      go_wp2_with fail
      refine (knows_any H1.out _).mono ?_
      rintro e w' ⟨rfl, rfl⟩
      rw [HK.out]
      go_wp2_with fail
      refine (has_any H1.out _).mono ?_
      rintro e w' ⟨rfl, rfl⟩
      rw [HS.out, HI.out]
      go_wp2
      go_end0
      exact ⟨rfl, Only.refl _ _, by rw [E.out]; exact HH.out⟩

def popI (N : Nat) (S : List Nat) (I : List Bool) : List Bool := I.set (best N S I) false

set_option maxHeartbeats 4000000 in
theorem pop_at {w : World} {m : Hm} {N : Nat} {S : List Nat} {I : List Bool} (h : Heap w m N S I) :
    Calls Try.prog 14 #[.pointer (some ⟨m.p, 0, none⟩)] w (Did m N S (popI N S I) (.tuple #[.int .i64 (best N S I : Nat), .bool (decide (best N S I ≠ 0))]) w) := by
  obtain ⟨⟨P, R, h1, h2, h3⟩, h4⟩ := id h
  have hlen : (R.take (cnt I)).length = cnt I := by have := h1.lenR; have := h1.le; simp; omega
  by_cases hn : cnt I = 0
  · have hb : best N S I = 0 := best_none h2 (by rw [hlen]; exact hn)
    have E := hid (show popI N S I = I by
      unfold popI; rw [hb]
      have := set_same I 0 false
      rwa [h2.zero] at this)
    have HB := hid hb
    have HH := hid h
    have hq : ((cnt I : Int) == 0) = true := by rw [hn]; rfl
    clear h h1 h2 h3 h4 hlen hb
    go_enter Try.func14, Try.ntmps14
    go_wp2_with (go_at_call 19; (with_reducible refine (len_at HH.out).mono ?_); rintro e w' ⟨rfl, rfl⟩)
    go_ret2
    exact ⟨by rw [HB.out]; rfl, Only.refl _ _, by rw [E.out]; exact HH.out⟩
  · have hq : ((cnt I : Int) == 0) = false := by rw [beq_eq_false_iff_ne]; omega
    have hb : best N S I = (R.take (cnt I)).getD 0 0 := best_top h2 h3 (by omega)
    rw [take_get R (cnt I) 0 (by omega)] at hb
    have ht0 := h2.tree 0 (by omega)
    rw [take_get R (cnt I) 0 (by omega)] at ht0
    have htl := h2.tree (cnt I - 1) (by omega)
    rw [take_get R (cnt I) _ (by omega)] at htl
    have hpop := h2.pop (by omega)
    have hfrom := From.pop h3
    rw [hlen, take_get R (cnt I) 0 (by omega), take_get R (cnt I) _ (by omega)] at hpop
    rw [hlen, take_get R (cnt I) _ (by omega)] at hfrom
    have hcn := hpop.count
    have HL := hid (len_at h)
    have hle := h1.le
    have hsm := h1.small
    obtain ⟨n, hn'⟩ : ∃ n, cnt I = n + 1 := ⟨cnt I - 1, by omega⟩
    have c2 := h1.head.cell 2 rfl
    have c1 := h1.head.cell 1 rfl
    have ct0 := h1.node (show 0 < N by omega)
    have ctl := h1.node (show cnt I - 1 < N by omega)
    rw [hn'] at hpop hfrom hcn HL hle c2 ctl htl h1 hq
    rw [Nat.add_sub_cancel] at hpop hfrom hcn ctl htl
    have cl0 := h1.place (show R.getD 0 0 ≤ N by omega)
    have H1 := hid h1
    have HB := hid hb
    have E := hid (show popI N S I = I.set (R.getD 0 0) false by unfold popI; rw [hb])
    have HP := hid (And.intro hpop (And.intro hfrom hcn))
    have H4 := hid h4
    have hb0 : R.getD 0 0 ≠ 0 := by omega
    have bN := ht0.2.1
    have bL := htl.2.1
    have iv : R.getD 0 0 < N + 1 := by omega
    have npl := h1.pl
    have npt := h1.pt
    have nlt := h1.lt
    have hsr : ((R.take (n + 1)).set 0 (R.getD n 0)).take n = (R.set 0 (R.getD n 0)).take n := by
      rw [← set_take, List.take_take]; congr 1; omega
    rw [hsr] at HP
    have HN := hid hn'
    clear h h1 h2 h3 h4 hlen hb hn hpop hfrom hcn ht0 htl hn' hsr
    generalize hv0 : R.getD 0 0 = v0 at *
    generalize hvl : R.getD n 0 = vl at *
    have hv0 := hid hv0
    have hvl := hid hvl
    go_enter Try.func14, Try.ntmps14
    go_wp2_with fail
    refine HL.out.mono ?_
    rintro e w' ⟨rfl, rfl⟩
    go_wp2_with fail
    go_quiet (fail)
    go_wp2_with fail
    refine (put_zero (H1.out.drewN _) vl bL (by omega)).mono ?_
    rintro e w2 ⟨rfl, ho, hm⟩
    have HM := hid hm
    have HO := hid (((Only.refl m.own w).drewN _).trans ho)
    have c1' := hm.head.cell 1 rfl
    have c2' := hm.head.cell 2 rfl
    have cl' := hm.place bN
    have fl' := hm.places.free v0
    have fp' := hm.head.free 2
    clear hm ho c1 c2 ct0 cl0 ctl
    go_wp2_with fail
    have hlR := HM.out.lenR
    have hcn : cnt (I.set v0 false) = n := by
      rw [← HP.out.2.2]; simp at hlR ⊢; omega
    have HC := hid hcn
    clear hcn hlR
    refine (sink_zero (I := I.set v0 false) (S := S) ((HM.out.wrote_place v0 (-1)).wrote_len (n' := n) (by omega)) HP.out.1 HP.out.2.1).mono ?_
    rintro e w3 ⟨rfl, ho, hl⟩
    have HO3 := hid (((HO.out.setCell (.inr (.inr (.inl rfl))) _).setCell (.inl rfl) _).trans ho)
    have HL3 := hid hl
    clear ho hl c1' c2' cl' fl' fp'
    go_wp2_with fail
    go_ret2
    refine ⟨by rw [HB.out]; simp [hb0], HO3.out, ?_⟩
    rw [E.out]
    refine ⟨?_, H4.out⟩
    rw [HC.out]; exact HL3.out

/-- all scores are smaller -/
def shrunk (S : List Nat) : List Nat := S.map (· / 1048576)

set_option maxHeartbeats 4000000 in
theorem shrink_any {w : World} {m : Hm} {N : Nat} {S : List Nat} {P : List Int} {R : List Nat} {n : Nat} {I : List Bool} (h : HMem w m N S P R n) (hS : ∀ v, S.getD v 0 ≤ 2199023255552)
    (hp : Pl N I P (R.take n)) :
    Calls Try.prog 28 #[.pointer (some ⟨m.p, 0, none⟩)] w (Rose m N (shrunk S) I n 0 w) := by
  have hs := h.small
  have hnN := h.le
  have c0 := h.head.cell 0 rfl
  have H := hid (And.intro h (And.intro hp hS))
  clear h hp hS
  go_enter Try.func28, Try.ntmps28
  go_wp2_with fail
  go_loopw [9, 2] (fun u _ wr => ∃ k : Nat, u = .int .i64 (k : Int) ∧ k ≤ N + 1 ∧ Hid (Only m.own w wr ∧ HMem wr m N ((shrunk S).take k ++ S.drop k) P R n)) (fun u _ _ => N + 1 - (intOf u).toNat)
  case atStart => exact ⟨0, rfl, by omega, hid ⟨Only.refl _ _, H.out.1⟩⟩
  case round =>
    obtain ⟨k, rfl, hk, HH⟩ := hrel
    have c0' := HH.out.2.head.cell 0 rfl
    by_cases hlt : k < N + 1
    · have ck := HH.out.2.score (show k ≤ N by omega)
      have hl := H.out.1.lenS
      have hg : ((shrunk S).take k ++ S.drop k).getD k 0 = S.getD k 0 := by
        rw [List.getD_eq_getElem?_getD, List.getElem?_append_right (by simp [shrunk]; omega)]
        simp [shrunk, hl, Nat.min_eq_left (Nat.le_of_lt hlt)]
      rw [hg] at ck
      have hsk := H.out.2.2 k
      have hst : ((shrunk S).take k ++ S.drop k).set k (S.getD k 0 / 1048576) = (shrunk S).take (k + 1) ++ S.drop (k + 1) := by
        apply List.ext_getElem?
        intro j
        have l1 : ((shrunk S).take k).length = k := by simp [shrunk]; omega
        have l2 : ((shrunk S).take (k + 1)).length = k + 1 := by simp [shrunk]; omega
        rw [List.getElem?_set]
        by_cases h1 : k = j
        · subst h1
          rw [if_pos rfl, if_pos (by rw [List.length_append, l1, List.length_drop]; omega), List.getElem?_append_left (by omega), List.getElem?_take_of_lt (by omega)]
          simp [shrunk, hl, hlt, List.getD_eq_getElem?_getD]
        · rw [if_neg h1]
          by_cases h2 : j < k
          · rw [List.getElem?_append_left (by omega), List.getElem?_append_left (by omega), List.getElem?_take_of_lt h2, List.getElem?_take_of_lt (by omega)]
          · rw [List.getElem?_append_right (by omega), List.getElem?_append_right (by omega), l1, l2, List.getElem?_drop, List.getElem?_drop]
            congr 1; omega
      have HST := hid hst
      have fk := HH.out.2.scores.free k
      clear hst hg hl
      generalize S.getD k 0 = x at *
      obtain ⟨xi, hxi⟩ : ∃ xi : Int, xi = (x : Int) := ⟨_, rfl⟩
      have hq := hid (show xi / 1048576 = ((x / 1048576 : Nat) : Int) by omega)
      have hx0 : 0 ≤ xi := by omega
      have hx1 : xi ≤ 2199023255552 := by omega
      rw [← hxi] at ck
      clear hxi hsk
      go_wp2_with fail
      go_roundw
      case rel =>
        have hm := HH.out.2.wrote_score k (x / 1048576)
        rw [HST.out, ← hq.out] at hm
        exact ⟨k + 1, by go_num, by omega, hid ⟨HH.out.1.setCell (.inr (.inl rfl)) _, hm⟩⟩
      case measure => simp [intOf]; omega
    · have hfull : (shrunk S).take k ++ S.drop k = shrunk S := by
        have hl := H.out.1.lenS
        rw [List.drop_eq_nil_of_le (by omega), List.append_nil, List.take_of_length_le (by simp [shrunk]; omega)]
      have HW := hid (show Only m.own w wr ∧ HMem wr m N (shrunk S) P R n by have := HH.out; rwa [hfull] at this)
      have c2' := HH.out.2.head.cell 2 rfl
      clear hfull HH
      have HPl := hid H.out.2.1
      obtain ⟨wo, rfl⟩ : ∃ wo : World, wo = wr := ⟨_, rfl⟩
      go_wp2_with fail
      go_loopw [3] (fun u wi => ∃ j : Int, u = .int .i64 j ∧ -1 ≤ j ∧ j < n ∧ Hid (Only m.own w wi ∧ Laid m N (shrunk S) I n (j + 1).toNat wi)) (fun u _ => (intOf u + 1).toNat)
      case atStart =>
        refine ⟨(n : Int) - 1, rfl, by omega, by omega, hid ⟨HW.out.1, P, R, HW.out.2, HPl.out, ?_⟩⟩
        have := From.all (S := shrunk S) (T := R.take n)
        rw [show (R.take n).length = n by have := HW.out.2.lenR; simp; omega] at this
        rwa [show ((n : Int) - 1 + 1).toNat = n by omega]
      case round =>
        obtain ⟨j, rfl, hj0, hj1, HL⟩ := hrel
        by_cases hj : 0 ≤ j
        · obtain ⟨i, rfl⟩ : ∃ i : Nat, j = (i : Int) := ⟨j.toNat, by omega⟩
          have hin : i < n := by omega
          obtain ⟨ho, P2, R2, g1, g2, g3⟩ := HL.out
          rw [show ((i : Int) + 1).toNat = i + 1 by omega] at g3
          have HG := hid (And.intro g1 (And.intro g2 g3))
          have HO := hid ho
          clear ho g1 g2 g3 HL
          go_wp2_with fail
          refine (sink_any HG.out.1 i (by omega) HG.out.2.1 HG.out.2.2).mono ?_
          rintro e w3 ⟨rfl, ho, hl⟩
          have HN := hid (And.intro (HO.out.trans ho) hl)
          clear ho hl
          go_wp2_with fail
          go_roundw
          case rel =>
            refine ⟨(i : Int) - 1, rfl, by omega, by omega, hid ⟨HN.out.1, ?_⟩⟩
            rw [show ((i : Int) - 1 + 1).toNat = i by omega]
            exact HN.out.2
          case measure => simp [intOf]
        · obtain rfl : j = -1 := by omega
          go_wp2_with fail
          go_end0
          exact ⟨rfl, HL.out.1, HL.out.2⟩

/-- what Bump makes of the scores -/
def bumpS (N : Nat) (S : List Nat) (v by' : Int) : List Nat :=
  if knowsV N v ∧ 0 ≤ by' ∧ by' ≤ 1099511627776 then
    if S.getD v.toNat 0 + by'.toNat ≤ 1099511627776 then S.set v.toNat (S.getD v.toNat 0 + by'.toNat) else shrunk (S.set v.toNat (S.getD v.toNat 0 + by'.toNat))
  else S
/-- were all made smaller? -/
def bumpB (N : Nat) (S : List Nat) (v by' : Int) : Bool := decide (knowsV N v = true ∧ 0 ≤ by' ∧ by' ≤ 1099511627776 ∧ 1099511627776 < S.getD v.toNat 0 + by'.toNat)

theorem bump_no {N : Nat} {S : List Nat} {v by' : Int} (h : ¬ (knowsV N v = true ∧ 0 ≤ by' ∧ by' ≤ 1099511627776)) : bumpS N S v by' = S ∧ bumpB N S v by' = false := by
  unfold bumpS bumpB
  rw [if_neg h]
  exact ⟨rfl, decide_eq_false (fun x => h ⟨x.1, x.2.1, x.2.2.1⟩)⟩
theorem bump_in {N : Nat} {S : List Nat} {k b : Nat} (h : knowsV N k = true) (hb : b ≤ 1099511627776) (hx : S.getD k 0 + b ≤ 1099511627776) : bumpS N S k b = S.set k (S.getD k 0 + b) ∧ bumpB N S k b = false := by
  unfold bumpS bumpB
  rw [if_pos ⟨h, by omega, by omega⟩, Int.toNat_natCast, Int.toNat_natCast, if_pos hx]
  exact ⟨rfl, decide_eq_false (fun x => by omega)⟩
theorem bump_out {N : Nat} {S : List Nat} {k b : Nat} (h : knowsV N k = true) (hb : b ≤ 1099511627776) (hx : 1099511627776 < S.getD k 0 + b) : bumpS N S k b = shrunk (S.set k (S.getD k 0 + b)) ∧ bumpB N S k b = true := by
  unfold bumpS bumpB
  rw [if_pos ⟨h, by omega, by omega⟩, Int.toNat_natCast, Int.toNat_natCast, if_neg (by omega)]
  exact ⟨rfl, decide_eq_true ⟨h, by omega, by omega, by omega⟩⟩
theorem shrunk_le {S : List Nat} (h : ∀ v, S.getD v 0 ≤ 2199023255552) (v : Nat) : (shrunk S).getD v 0 ≤ 1099511627776 := by
  unfold shrunk
  rw [List.getD_eq_getElem?_getD, List.getElem?_map]
  have := h v
  rw [List.getD_eq_getElem?_getD] at this
  cases hv : S[v]? with
  | none => simp
  | some x => rw [hv] at this; simp at this ⊢; omega

set_option maxHeartbeats 4000000 in
theorem bump_at {w : World} {m : Hm} {N : Nat} {S : List Nat} {I : List Bool} (h : Heap w m N S I) (v by' : Int) :
    Calls Try.prog 16 #[.pointer (some ⟨m.p, 0, none⟩), .int .i64 v, .int .i64 by'] w (Did m N (bumpS N S v by') I (.bool (bumpB N S v by')) w) := by
  obtain ⟨⟨P, R, h1, h2, h3⟩, h4⟩ := id h
  have H1 := hid h1
  have HH := hid h
  by_cases hok : knowsV N v = true ∧ 0 ≤ by' ∧ by' ≤ 1099511627776
  · obtain ⟨hk, hb0, hb1⟩ := hok
    have hv := of_decide_eq_true hk
    obtain ⟨k, rfl⟩ : ∃ k : Nat, v = (k : Int) := ⟨v.toNat, by omega⟩
    obtain ⟨b, hb⟩ : ∃ b : Nat, by' = (b : Int) := ⟨by'.toNat, by omega⟩
    have HK := hid hk
    have hsm := h1.small
    have c0 := h1.head.cell 0 rfl
    have ck := h1.score (show k ≤ N by omega)
    have fk := h1.scores.free k
    have nps := h1.ps
    have ik : k < N + 1 := by omega
    have hSk := h4 k
    have HP := hid (And.intro h2 (And.intro h3 h4))
    have HL := hid (And.intro h1.lenS hv)
    have hlR := hid h1.lenR
    have hle := hid h1.le
    obtain ⟨xi, hxi⟩ : ∃ xi : Int, xi = (S.getD k 0 : Int) := ⟨_, rfl⟩
    have hx0 : 0 ≤ xi := by omega
    have hx1 : xi ≤ 1099511627776 := by omega
    have HY := hid (show xi + by' = ((S.getD k 0 + b : Nat) : Int) by omega)
    have H2 := hid (show HMem (w.setCell ⟨m.s, k, none⟩ (.int .i64 (xi + by'))) m N (S.set k (S.getD k 0 + b)) P R (cnt I) by
      rw [HY.out]; exact h1.wrote_score k _)
    have c0' := H2.out.head.cell 0 rfl
    have hO := hid ((Only.refl m.own w).setCell (p := ⟨m.s, k, none⟩) (.inr (.inl rfl)) (.int .i64 (xi + by')))
    rw [← hxi] at ck
    by_cases hx : S.getD k 0 + b ≤ 1099511627776
    · have E := hid (bump_in hk (by omega) hx)
      rw [← hb] at E
      have hS' : ∀ u, (S.set k (S.getD k 0 + b)).getD u 0 ≤ 1099511627776 := fun u => by
        rw [getD_set]; split
        · exact hx
        · exact h4 u
      have HS' := hid hS'
      have hle2 : xi + by' ≤ 1099511627776 := by omega
      have HS := hid (has_is h2 (k : Int))
      cases hi : I.getD k false
      · have HI := hid (show isV N I (k : Int) = false by unfold isV; rw [hk, Int.toNat_natCast, hi]; rfl)
        have HF := hid (From.bump h2 h3 (x := S.getD k 0 + b) hi)
        clear h h1 h2 h3 h4 hk hx hxi hS' hi hSk hb
        go_enter Try.func16, Try.ntmps16
        go_wp2_with fail
        refine (knows_any H1.out _).mono ?_
        rintro e w' ⟨rfl, rfl⟩
        rw [HK.out]
        go_wp2_with fail
        refine (has_any H2.out _).mono ?_
        rintro e w' ⟨rfl, rfl⟩
        rw [HS.out, HI.out]
        go_wp2
        go_ret
        exact Did.mk (by rw [E.out.2]; rfl) hO.out (by rw [E.out.1]; exact ⟨⟨P, R, H2.out, HP.out.1, HF.out⟩, HS'.out⟩)
      · have HI := hid (show isV N I (k : Int) = true by unfold isV; rw [hk, Int.toNat_natCast, hi]; rfl)
        have hup := Up.bump h2 h3 (v := k) (x := S.getD k 0 + b) (by omega) (by rw [h1.lenS]; omega) hi (by omega) (by omega)
        obtain ⟨_, p0, p1, p2⟩ : I.getD k false = true ∧ 0 ≤ P.getD k 0 ∧ (P.getD k 0).toNat < (R.take (cnt I)).length ∧ (R.take (cnt I)).getD (P.getD k 0).toNat 0 = k := by
          rcases h2.place k (by omega) (by omega) with hh | hh
          · exact hh
          · rw [hh.1] at hi; cases hi
        have p1' : (P.getD k 0).toNat < cnt I := by rw [List.length_take] at p1; omega
        rw [take_get _ _ _ p1'] at p2
        have cp := H2.out.place (show k ≤ N by omega)
        have hsame := set_same P k 0
        obtain ⟨pk, hpk⟩ : ∃ pk : Nat, P.getD k 0 = (pk : Int) := ⟨(P.getD k 0).toNat, by omega⟩
        rw [hpk, Int.toNat_natCast] at p2 p1' hup
        rw [hpk] at cp hsame
        have HR := hid (show Pl N I (P.set (R.getD pk 0) (pk : Int)) (R.take (cnt I)) by rw [p2, hsame]; exact h2)
        have HU := hid hup
        have c1' := H2.out.head.cell 1 rfl
        clear h h1 h2 h3 h4 hk hx hxi hS' hi hSk hb hup p0 p1 p2 hsame hpk
        go_enter Try.func16, Try.ntmps16
        go_wp2_with fail
        refine (knows_any H1.out _).mono ?_
        rintro e w' ⟨rfl, rfl⟩
        rw [HK.out]
        go_wp2_with fail
        refine (has_any H2.out _).mono ?_
        rintro e w' ⟨rfl, rfl⟩
        rw [HS.out, HI.out]
        go_wp2_with fail
        refine (rise_any H2.out pk p1' HR.out HU.out).mono ?_
        rintro e w' ⟨rfl, ho, hl⟩
        have HO := hid (hO.out.trans ho)
        have HLd := hid hl
        clear ho hl
        go_wp2
        go_ret
        exact Did.mk (by rw [E.out.2]; rfl) HO.out (by rw [E.out.1]; exact ⟨HLd.out, HS'.out⟩)
    · have E := hid (bump_out hk (by omega) (show 1099511627776 < S.getD k 0 + b by omega))
      rw [← hb] at E
      have hS' : ∀ u, (S.set k (S.getD k 0 + b)).getD u 0 ≤ 2199023255552 := fun u => by
        rw [getD_set]; split
        · omega
        · have := h4 u; omega
      have HS' := hid hS'
      have hle2 : 1099511627776 < xi + by' := by omega
      clear h h1 h2 h3 h4 hk hx hxi hS' hSk hb
      go_enter Try.func16, Try.ntmps16
      go_wp2_with fail
      refine (knows_any H1.out _).mono ?_
      rintro e w' ⟨rfl, rfl⟩
      rw [HK.out]
      go_wp2_with fail
      refine (shrink_any H2.out HS'.out HP.out.1).mono ?_
      rintro e w' ⟨rfl, ho, hl⟩
      have HO := hid (hO.out.trans ho)
      have HLd := hid hl
      clear ho hl
      go_wp2
      go_ret
      exact Did.mk (by rw [E.out.2]; rfl) HO.out (by rw [E.out.1]; exact ⟨HLd.out, shrunk_le HS'.out⟩)
  · have E := hid (bump_no (S := S) hok)
    cases hk : knowsV N v
    · have HK := hid hk
      clear h h1 h2 h3 h4 hok hk
      go_enter Try.func16, Try.ntmps16
      go_wp2_with fail
      refine (knows_any H1.out _).mono ?_
      rintro e w' ⟨rfl, rfl⟩
      rw [HK.out]
      go_wp2
      go_ret
      exact Did.mk (by rw [E.out.2]; rfl) (Only.refl _ _) (by rw [E.out.1]; exact HH.out)
    · have HK := hid hk
      by_cases hb : by' < 0
      · clear h h1 h2 h3 h4 hok hk
        go_enter Try.func16, Try.ntmps16
        go_wp2_with fail
        refine (knows_any H1.out _).mono ?_
        rintro e w' ⟨rfl, rfl⟩
        rw [HK.out]
        go_wp2
        go_ret
        exact Did.mk (by rw [E.out.2]; rfl) (Only.refl _ _) (by rw [E.out.1]; exact HH.out)
      · have hb2 : 1099511627776 < by' := by
          by_cases hq : 1099511627776 < by'
          · exact hq
          · exact absurd ⟨hk, by omega, by omega⟩ hok
        clear h h1 h2 h3 h4 hok hk
        go_enter Try.func16, Try.ntmps16
        go_wp2_with fail
        refine (knows_any H1.out _).mono ?_
        rintro e w' ⟨rfl, rfl⟩
        rw [HK.out]
        go_wp2
        go_ret
        exact Did.mk (by rw [E.out.2]; rfl) (Only.refl _ _) (by rw [E.out.1]; exact HH.out)

end Go.Proofs.Ytbjllcjjibjgoaa.Hp
