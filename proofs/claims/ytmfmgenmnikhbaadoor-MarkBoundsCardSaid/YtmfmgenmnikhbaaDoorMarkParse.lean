/-
  LAYER 6, PACKAGE mark: a digest's text parsed.
-/
import Derived.Test.YtmfmgenmnikhbaaDoorMarkDigest
import Derived.Lib.ConvBytes
namespace Go.Proofs.YtmfmgenmnikhbaaDoor.Mk
open Go.RowKit
open Hx (dg hv allDig digOk digV hexT parseN parseOk)

theorem or32 (n : Nat) (h : 97 ≤ n) (h2 : n ≤ 102) : n ||| 32 = n := by
  have : ∀ m : Fin 103, 97 ≤ m.val → m.val ||| 32 = m.val := by decide
  exact this ⟨n, by omega⟩ h

set_option maxRecDepth 100000 in
set_option maxHeartbeats 4000000 in
theorem iparse_any (s : ByteArray) (h16 : s.size = 16) (hd : allDig s.data.toList = true) (w : World) :
    Calls Tryd.prog 38 #[.string s, .int .i64 16, .int .i64 64] w (Gives (.tuple #[.int .u64 (hv s.data.toList : Nat), .nilIface]) w) := by
  have hlen := hid (show s.data.toList.length = s.size by simp)
  have hq : (s.toList == []) = false := by
    rw [ByteArray.toList_eq, beq_eq_false_iff_ne]
    intro h
    have := congrArg List.length h
    rw [hlen.out, h16] at this
    cases this
  have H16 := hid h16
  have HD := hid hd
  clear h16 hd
  have m1 : IntKind.u64.wrap 18446744073709551616 = 0 := by kernel_rfl
  have m2 : IntKind.u64.wrap (-1) = 18446744073709551615 := by kernel_rfl
  obtain ⟨W1, cp, hcv, hbW, hcells⟩ : ∃ W1 cp, (convert 9 53 (.string s)).run Tryd.prog w = .ok (.slice (some ⟨w.heap.size, 0, none⟩) s.size cp) W1 ∧ Below w.heap.size w W1 ∧ ∀ j (h : j < s.size), W1.cell? ⟨w.heap.size, j, none⟩ = some (.int .u8 ((s[j].toNat : Nat) : Int)) := by
    refine ⟨_, _, Lib.run_convert_string_bytes w 9 53 5 s Tryd.underlying9 Tryd.underlying53 Tryd.underlying5, ?_, ?_⟩
    · exact ⟨rfl, rfl, rfl, by rw [Lib.bytesWorld_size]; omega, fun k hk => Lib.bytesWorld_at_old w _ s k hk⟩
    · intro j h
      rw [Lib.bytesWorld_cell w _ s j h]
      have := byte_at s j h
      simp [List.getD, this]
  have HBW := hid hbW
  have HCE := hid hcells
  clear hbW hcells
  go_enter Tryd.func38, Tryd.ntmps38
  go_wp2_with fail
  have hl16 : s.size = 16 := H16.out
  have HLo := fun (c : Int) w => hid (Any.internal_strconv_lower Tryd.lays321 c w)
  have HLo' : ∀ (c : Int) w, Hid (Calls Tryd.prog 49 #[.int .u8 c] w fun e w' => e = .returned (.int .u8 (bits .or .u8 c 32)) ∧ w' = w) := HLo
  have HLS := hid hl16
  clear hl16 HLo hcv m1 m2
  go_loopw [12, 13, 101] (fun u v i wr => ∃ k : Nat, k ≤ 16 ∧ u = .bool false ∧ v = .int .u64 (hv (s.data.toList.take k) : Nat) ∧ i = .int .i64 k ∧ wr = W1) (fun _ _ i _ => 16 - (intOf i).toNat)
  case atStart => exact ⟨0, by omega, rfl, rfl, rfl, rfl⟩
  case round =>
    obtain ⟨k, hk, rfl, rfl, rfl, rfl⟩ := hrel
    by_cases hlt : k < 16
    · have hks : k < s.size := by rw [HLS.out]; exact hlt
      have hcell := HCE.out k hks
      have hbl : w.heap.size < wr.heap.size := World.block_lt_of_cell? wr _ hcell
      have htk := Hx.take_snoc s k hks
      have hvs := Hx.hv_snoc (s.data.toList.take k) s[k]
      rw [← htk] at hvs
      have hvl := Hx.hv_lt (s.data.toList.take k)
      have hvl2 : hv (s.data.toList.take k) < 1152921504606846976 := Nat.lt_of_lt_of_le hvl (by
        rw [List.length_take, hlen.out, HLS.out]
        exact Nat.le_trans (Nat.pow_le_pow_right (by decide) (by omega : min k 16 ≤ 15)) (by decide))
      have hok : digOk (s[k].toNat : Int) = true := by
        have := HD.out
        unfold allDig at this
        exact List.all_eq_true.1 this _ (by have := byte_at s k hks; exact List.mem_of_getElem? this)
      have hdc := Hx.dg_cast s[k]
      have hdl := Hx.dg_lt s[k]
      have hcc : (s[k].toNat : Int) ≤ 255 := by have := s[k].toNat_lt; omega
      have HVS := hid hvs
      clear hvl htk hvs
      generalize s[k] = c at *
      generalize hv (s.data.toList.take k) = A at *
      generalize dg c = d at *
      have hA : (A : Int) < 1152921504606846976 := by omega
      have hA0 : (0 : Int) ≤ (A : Int) := by omega
      have hd0 : (0 : Int) ≤ (d : Int) := by omega
      have hd16 : (d : Int) < 16 := by omega
      have HA := hid hvl2
      clear hvl2 hdl
      generalize hAI : (A : Int) = a at hA hA0 ⊢
      generalize hDI : (d : Int) = x at hdc hd0 hd16
      have HAI := hid hAI
      have HDI := hid hDI
      clear hAI hDI
      unfold digOk at hok
      simp only [Bool.or_eq_true, decide_eq_true_eq] at hok
      unfold digV at hdc
      rcases hok with ⟨h1, h2⟩ | ⟨h1, h2⟩
      · rw [if_pos ⟨h1, h2⟩] at hdc
        have h95 : ((c.toNat : Int) == 95) = false := by rw [beq_eq_false_iff_ne]; omega
        have hdc' := hid hdc
        have hdI : (c.toNat : Int) - 48 = x := hdc.symm
        clear hdc
        go_wp2_with fail
        go_roundw
        case rel => exact ⟨k + 1, by omega, rfl, int_eq (by rw [HVS.out, ← HAI.out, ← HDI.out]; omega), by go_num, trivial⟩
        case measure => simp [intOf]; omega
      · have h48 : ¬ (c.toNat : Int) ≤ 57 := by omega
        rw [if_neg (by omega), if_pos ⟨h1, h2⟩] at hdc
        have h95 : ((c.toNat : Int) == 95) = false := by rw [beq_eq_false_iff_ne]; omega
        have hor : bits .or .u8 (c.toNat : Int) 32 = (c.toNat : Int) := by
          have h3 := u8_or_nat c.toNat 32 (by omega) (by decide)
          have h4 : c.toNat ||| 32 = c.toNat := or32 c.toNat (by omega) (by omega)
          rw [h4] at h3; exact h3
        have hdI : (c.toNat : Int) - 97 + 10 = x := by omega
        have h122 : (c.toNat : Int) ≤ 122 := by omega
        have hdc' := hid hdc
        clear hdc
        have hL := fun w => hid (show Calls Tryd.prog 49 #[.int .u8 (c.toNat : Int)] w fun e w' => e = .returned (.int .u8 (c.toNat : Int)) ∧ w' = w from by
          have := (HLo' (c.toNat : Int) w).out
          rwa [hor] at this)
        clear HLo' hor
        go_wp2_with (first | (go_at_call 49; (with_reducible refine ((hL _).out).mono ?_); rintro e w' ⟨rfl, rfl⟩))
        go_roundw
        case rel => exact ⟨k + 1, by omega, rfl, int_eq (by rw [HVS.out, ← HAI.out, ← HDI.out]; omega), by go_num, trivial⟩
        case measure => simp [intOf]; omega
    · have hke : s.data.toList.take k = s.data.toList := List.take_of_length_le (by rw [hlen.out, HLS.out]; omega)
      have hnl : ¬ k < s.size := by rw [HLS.out]; exact hlt
      rw [hke]
      clear hke
      go_wp2_with fail
      go_ret2
      exact gives rfl rfl HBW.out

theorem sparse_any (s : ByteArray) (h16 : s.size = 16) (hd : allDig s.data.toList = true) (w : World) :
    Calls Tryd.prog 30 #[.string s, .int .i64 16, .int .i64 64] w (Gives (.tuple #[.int .u64 (hv s.data.toList : Nat), .nilIface]) w) := by
  have H := hid (iparse_any s h16 hd w)
  clear h16 hd
  generalize hv s.data.toList = v at H ⊢
  go_enter Tryd.func30, Tryd.ntmps30
  go_wp2_with fail
  refine H.out.mono ?_
  rintro e w' ⟨rfl, hb⟩
  go_wp2_with fail
  go_ret2
  exact gives rfl rfl hb

def hexB : List UInt8 := [48, 49, 50, 51, 52, 53, 54, 55, 56, 57, 97, 98, 99, 100, 101, 102]
theorem hexB_ok (c : UInt8) : hexB.contains c = digOk (c.toNat : Int) := by
  have h : ((List.range 256).all fun n => hexB.contains (UInt8.ofNat n) == digOk ((UInt8.ofNat n).toNat : Int)) = true := by decide +kernel
  have := List.all_eq_true.1 h c.toNat (List.mem_range.2 c.toNat_lt)
  simpa using this
theorem info256 : (Tryd.prog.info? (Tryd.lays161_ren.t 116)).map (fun i => (i.zero, i.size)) = some (some (.agg (Array.replicate 256 (.bool false))), 256) := by kernel_rfl
theorem trim_any (s : ByteArray) (w : World) :
    Calls Tryd.prog 29 #[.string s, .string ⟨#[48, 49, 50, 51, 52, 53, 54, 55, 56, 57, 97, 98, 99, 100, 101, 102]⟩] w (Gives (.string ⟨(Lib.trimLeftS s.data.toList hexB).toArray⟩) w) :=
  Any.strings_TrimLeft_laid Tryd.lays161 info256 s ⟨hexB.toArray⟩ w (by decide) (ascii_of_all (by decide +kernel))
theorem trim_nil (l : List UInt8) : (Lib.trimLeftS l hexB).isEmpty = allDig l := by
  unfold Lib.trimLeftS allDig
  rw [show (fun x => hexB.contains x) = (fun c => digOk (c.toNat : Int)) from funext hexB_ok]
  induction l with
  | nil => rfl
  | cons c l ih =>
    rw [List.dropWhile_cons, List.all_cons]
    cases h : digOk (c.toNat : Int)
    · rfl
    · simpa using ih

theorem dparse_any (s : ByteArray) (w : World) :
    Calls Tryd.prog 20 #[.string s] w (Gives (.tuple #[.int .u64 (parseN s : Nat), .bool (parseOk s)]) w) := by
  by_cases h16 : s.size = 16
  · have HT := hid (trim_any s)
    have HN := hid (trim_nil s.data.toList)
    have h' : ((s.size : Int) != 16) = false := by rw [bne_eq_false_iff_eq]; omega
    generalize hTT : Lib.trimLeftS s.data.toList hexB = T at HT HN
    clear hTT
    cases hd : allDig s.data.toList
    · have HV := hid (show parseN s = 0 ∧ parseOk s = false by unfold parseN parseOk Hx.parseV; rw [if_pos h16, hd]; simp)
      rw [hd] at HN
      have hne := HN.out
      clear h16 hd HN
      go_enter Tryd.func20, Tryd.ntmps20
      go_wp2_with (go_at_call 29; (with_reducible refine (HT.out _).mono ?_); rintro e w' ⟨rfl, hb⟩)
      go_ret2
      exact gives rfl (by rw [HV.out.1, HV.out.2]; rfl) hb
    · have HV := hid (show parseN s = hv s.data.toList ∧ parseOk s = true by unfold parseN parseOk Hx.parseV; rw [if_pos h16, hd]; simp [h16])
      have HP := fun w => hid (sparse_any s h16 hd w)
      rw [hd] at HN
      have hne := HN.out
      generalize hv s.data.toList = v at HV HP
      clear h16 hd HN
      go_enter Tryd.func20, Tryd.ntmps20
      go_wp2_with (first | (go_at_call 29; (with_reducible refine (HT.out _).mono ?_); rintro e w' ⟨rfl, hb⟩) | (go_at_call 30; (with_reducible refine ((HP _).out).mono ?_); rintro e w' ⟨rfl, hb2⟩))
      go_quiet (fail)
      go_wp2
      go_ret2
      exact gives rfl (by rw [HV.out.1, HV.out.2]; rfl) (below_drewN' (below_trans hb hb2) _)
  · have h' : ((s.size : Int) != 16) = true := by rw [bne_iff_ne]; omega
    have HV := hid (show parseN s = 0 ∧ parseOk s = false by unfold parseN parseOk; rw [if_neg h16]; simp [h16])
    clear h16
    go_enter Tryd.func20, Tryd.ntmps20
    go_wp2_with fail
    go_ret2
    exact gives rfl (by rw [HV.out.1, HV.out.2]; rfl) (Below.refl _ _)
end Go.Proofs.YtmfmgenmnikhbaaDoor.Mk
