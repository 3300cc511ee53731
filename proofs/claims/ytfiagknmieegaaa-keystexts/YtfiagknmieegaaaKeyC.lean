
/- law07's alive; keys.Text, Hex; ref07.Bytes. -/
import Derived.Test.YtfiagknmieegaaaKeyB
import Derived.Test.YtfiagknmieegaaaSixK
import Derived.Test.YtfiagknmieegaaaHexE
namespace Go.Proofs.Ytfiagknmieegaaa
open Go.RowKit

theorem Try.zeroKey : (Try.prog.info? 44).map (fun i => (i.zero, i.size)) = some (some (.agg (List.replicate 32 (Value.int .u8 0)).toArray), 32) := by kernel_rfl

theorem keyText_any (a : List UInt8) (ha : a.length = 32) (w : World) :
    Calls Try.prog 22 #[av a] w fun e w' => e = .returned (sv (Six.enc a)) ∧ Below w.heap.size w w' := by
  have h1 := (arr_new w 44 a).shows
  rw [ha] at h1
  go_enter Try.func22, Try.ntmps22
  go_wp2_with fail
  refine (Six.encode_any _ _ _ a _ (by omega) (by omega) h1).mono ?_; rintro e w1 ⟨rfl, hb1⟩
  have hb2 := Below.step (Below.refl w.heap.size w) (Nat.le_refl _) hb1
  go_wp2
  go_ret
  exact ⟨rfl, hb2⟩

theorem keyHex_any (a : List UInt8) (ha : a.length = 32) (w : World) :
    Calls Try.prog 23 #[av a] w fun e w' => e = .returned (sv (Hex.hexEnc a)) ∧ Below w.heap.size w w' := by
  have h1 := (arr_new w 44 a).shows
  rw [ha] at h1
  go_enter Try.func23, Try.ntmps23
  go_wp2_with fail
  refine (Hex.encode_any _ _ _ a _ (by omega) h1).mono ?_; rintro e w1 ⟨rfl, hb1⟩
  have hb2 := Below.step (Below.refl w.heap.size w) (Nat.le_refl _) hb1
  go_wp2
  go_ret
  exact ⟨rfl, hb2⟩

theorem keyText_zero (w : World) : Calls Try.prog 22 #[.agg (List.replicate 32 (Value.int .u8 0)).toArray] w fun e w' => e = .returned (sv (Six.enc (List.replicate 32 0))) ∧ Below w.heap.size w w' :=
  keyText_any (List.replicate 32 0) rfl w
theorem keyHex_one (w : World) : Calls Try.prog 23 #[.agg (Value.int .u8 1 :: List.replicate 31 (Value.int .u8 0)).toArray] w fun e w' => e = .returned (sv (Hex.hexEnc (1 :: List.replicate 31 0))) ∧ Below w.heap.size w w' :=
  keyHex_any (1 :: List.replicate 31 0) rfl w
theorem keyZero_zero (w : World) : Calls Try.prog 35 #[.agg (List.replicate 32 (Value.int .u8 0)).toArray] w fun e w' => e = .returned (.bool true) ∧ Below w.heap.size w w' :=
  keyZero_any (List.replicate 32 0) rfl w

theorem alive7 (w : World) : Calls Try.prog 29 #[] w fun e w' => e = .returned (.bool true) ∧ Below w.heap.size w w' := by
  go_enter Try.func29, Try.ntmps29
  go_wp2_with fail
  refine (keyText_zero _).mono ?_; rintro e w1 ⟨rfl, hb1⟩
  rw [show Six.enc (List.replicate 32 0) = List.replicate 43 65 ++ [61] by decide +kernel]
  go_wp2_with fail
  refine (keyHex_one _).mono ?_; rintro e w2 ⟨rfl, hb2⟩
  have hb2 := Below.on hb1 hb1.size hb2
  rw [show Hex.hexEnc (1 :: List.replicate 31 0) = [48, 49] ++ List.replicate 62 48 by decide +kernel]
  go_wp2_with fail
  refine (keyZero_zero _).mono ?_; rintro e w3 ⟨rfl, hb3⟩
  have hb3 := Below.on hb2 hb2.size hb3
  clear hb1 hb2
  go_wp2
  go_ret
  exact ⟨rfl, hb3⟩

end Go.Proofs.Ytfiagknmieegaaa
