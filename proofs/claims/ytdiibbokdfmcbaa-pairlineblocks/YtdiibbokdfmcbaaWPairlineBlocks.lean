
/- The walk of law36.PairlineBlocks. -/
import Derived.Test.YtdiibbokdfmcbaaPlnK
namespace Go.Proofs.Ytdiibbokdfmcbaa
open Go.RowKit Lin Pln
set_option maxRecDepth 100000

theorem take_one {α : Type} (l : List α) (k : Nat) (x : α) (h : l[k]? = some x) : l.take (k + 1) = l.take k ++ [x] := by
  obtain ⟨hk, rfl⟩ := List.getElem?_eq_some_iff.1 h
  exact List.take_succ_eq_append_getElem hk

set_option maxHeartbeats 2000000 in
theorem walk_PairlineBlocks (A : Option Addr) (n c : Nat) (ps : List Pr) (w : World) (hc : n ≤ c ∧ c ≤ maxLen) (hs : ShP w w.heap.size A n ps) (hb : ∀ p ∈ ps, p.1.length ≤ maxLen ∧ p.2.length ≤ maxLen) :
    Calls Try.prog 4 #[.slice A n c] w fun e w' => e = .returned (.bool true) ∧ Below w.heap.size w w' := by
  unfold maxLen at *
  by_cases hlong : 30 < n
  · go_enter Try.func4, Try.ntmps4
    go_wp2_with fail
    refine (alive36 _).mono ?_; rintro e w3 ⟨rfl, hb3⟩
    go_wp2
    go_ret
    exact ⟨rfl, hb3⟩
  · have Hb := Lib.hid hb
    have HTk := Lib.hid (fun k x (h : ps[k]? = some x) => take_one ps k x h)
    have hlen := hs.len
    have HL := Lib.hid hlen
    clear hb hlen
    go_enter Try.func4, Try.ntmps4
    go_wp2
    go_loopw [3, 18] (fun v i wr => ∃ k : Nat, k ≤ n ∧ i = .int .i64 k ∧ Hid (∀ p ∈ ps.take k, p.1.length ≤ 600 ∧ p.2.length ≤ 600) ∧ OwnPr 30 wr w.heap.size v k (ps.take k) ∧ Below w.heap.size w wr) (fun _ i _ => n - (intOf i).toNat)
    case atStart => exact ⟨0, Nat.zero_le _, rfl, Lib.hid (fun p hp => by simp at hp), World.ownsRow_nil _ _ _ _, Below.refl _ _⟩
    case round =>
      obtain ⟨k, hk, rfl, hz, hown, hbel⟩ := hrel
      have hbs := hbel.size
      by_cases hlt : k < n
      · obtain ⟨b, off, p, rfl, hb, p0, p1, hp⟩ := (hs.below hbel).elem hlt
        obtain ⟨hl1, hl2⟩ := Hb.out p (List.mem_of_getElem? hp)
        have HS := Lib.hid (HTk.out k p hp)
        have hk1 : (ByteArray.mk ⟨p.1⟩).size = p.1.length := rfl
        have hk2 : (ByteArray.mk ⟨p.2⟩).size = p.2.length := rfl
        clear hp
        by_cases h6 : 600 < p.1.length
        · rw [← hk1] at h6 hl1
          unfold sv at p0 p1
          generalize ByteArray.mk ⟨p.1⟩ = K at *
          generalize ByteArray.mk ⟨p.2⟩ = V at *
          have b1 := hbel.alloc hbs (.cells #[.string K, .string V] 27)
          go_wp2_with fail
          refine (alive36 _).mono ?_; rintro e w3 ⟨rfl, hb3⟩
          have b3 := Below.on b1 b1.size (by exact hb3)
          go_wp2
          go_ret
          exact ⟨rfl, b3⟩
        by_cases h7 : 600 < p.2.length
        · rw [← hk1] at h6 hl1
          rw [← hk2] at h7 hl2
          unfold sv at p0 p1
          generalize ByteArray.mk ⟨p.1⟩ = K at *
          generalize ByteArray.mk ⟨p.2⟩ = V at *
          have b1 := hbel.alloc hbs (.cells #[.string K, .string V] 27)
          go_wp2_with fail
          refine (alive36 _).mono ?_; rintro e w3 ⟨rfl, hb3⟩
          have b3 := Below.on b1 b1.size (by exact hb3)
          go_wp2
          go_ret
          exact ⟨rfl, b3⟩
        have HZ := Lib.hid (show ∀ q ∈ ps.take (k + 1), q.1.length ≤ 600 ∧ q.2.length ≤ 600 by
          intro q hq
          rw [HS.out] at hq
          rcases List.mem_append.1 hq with h | h
          · exact hz.out q h
          · simp at h; subst h; omega)
        rw [← hk1] at h6 hl1
        rw [← hk2] at h7 hl2
        unfold sv at p0 p1
        have hp1 : sv p.1 = .string (ByteArray.mk ⟨p.1⟩) := rfl
        have hp2 : sv p.2 = .string (ByteArray.mk ⟨p.2⟩) := rfl
        have H1 := Lib.hid hp1
        have H2 := Lib.hid hp2
        clear hp1 hp2
        generalize ByteArray.mk ⟨p.1⟩ = K at *
        generalize ByteArray.mk ⟨p.2⟩ = V at *
        have b1 := hbel.alloc hbs (.cells #[.string K, .string V] 27)
        go_wp2_with (at_builtin; refine wpList_appPr _ rfl _ _ 37 30 rfl Try.underlying37 Try.infoRPairB w.heap.size _ _ _ rfl ((hown.alloc _).alloc _) (wr.heap.size + 1) 1 p rfl (by rw [H1.out]; exact (cells_two (blk_new' _ _ _ _ (by simp))).1) (by rw [H2.out]; exact (cells_two (blk_new' _ _ _ _ (by simp))).2) (by omega) (by simp; omega) ?_; intro v' w3 hown' hgrow)
        have b3 : Below w.heap.size w w3 := by
          refine Below.grown ?_ hgrow ?_ (fun g hg => (hown.lt g hg).1)
          · exact b1.alloc (by simp; omega) _
          · simp; omega
        clear hgrow
        go_wp2
        go_roundw
        case rel => exact ⟨k + 1, by omega, by go_num, HZ, by rw [HS.out]; exact hown', b3⟩
        case measure => simp [intOf] <;> omega
      · obtain rfl : k = n := by omega
        have htk : ps.take k = ps := List.take_of_length_le (Nat.le_of_eq HL.out)
        rw [htk] at hz hown
        have hsz : ∀ p ∈ ps, p.1.length ≤ 100000 ∧ p.2.length ≤ 100000 := fun p hp => by have := hz.out p hp; omega
        obtain ⟨A2, c2, rfl, q1, q2, q3⟩ := hown.sh
        have s1 := (hs.below hbel).up hbs
        have H1 := Lib.hid (fun W h => block_any A k c ps W (by omega) hsz h)
        have H2 := Lib.hid (fun W h => refBlock_any A2 k c2 ps W (by omega) hsz h)
        by_cases hE : bE ps = 0
        · have H3 := Lib.hid (fun W => read_any (bT ps) W (by
            obtain ⟨h5, h6⟩ := bE_ok ps hE
            rw [bT, if_pos hE]
            have := joinL_most (ps.map fun p => tL p.1 p.2) (fun x hx => by
              obtain ⟨p, _, rfl⟩ := List.mem_map.1 hx
              exact tL_len _ _)
            simp only [List.length_map, List.length_append, List.length_cons, List.length_nil] at *
            have := HL.out
            omega))
          obtain ⟨e1, e2⟩ := r_b ps hE
          rw [e1, e2] at H3
          rw [hE] at H1 H2
          clear e1 e2 hE hz htk hown Hb HTk hsz
          unfold sv at *
          generalize ByteArray.mk ⟨bT ps⟩ = BT at *
          go_wp2_with fail
          refine (H1.out _ s1).mono ?_; rintro e w2 ⟨rfl, hb2⟩
          have q4 := q3.on hb2
          have b2 := Below.on hbel hbel.size hb2
          go_wp2_with fail
          refine (H2.out _ q4).mono ?_; rintro e w3 ⟨rfl, hb3⟩
          have q5 := q4.on hb3
          have b3 := Below.on b2 b2.size hb3
          go_wp2_with fail
          refine (H3.out _).mono ?_; rintro e w4 ⟨⟨A4, c4, rfl, _, _, s4⟩, hb4⟩
          rw [HL.out] at s4 ⊢
          have q6 := q5.on hb4
          have b4 := Below.on b3 b3.size hb4
          go_wp2_with fail
          refine (alike_yes A4 A2 k c4 c2 ps _ (by omega) s4 q6).mono ?_; rintro e w5 ⟨rfl, hb5⟩
          have b5 := Below.on b4 b4.size hb5
          go_wp2_with fail
          refine (alive36 _).mono ?_; rintro e w6 ⟨rfl, hb6⟩
          have b6 := Below.on b5 b5.size hb6
          go_wp2
          go_ret
          exact ⟨rfl, b6⟩
        · have hne : ((bE ps : Int) != 0) = true := by rw [bne_iff_ne]; omega
          clear hE hz htk hown Hb HTk hsz
          unfold sv at *
          generalize ByteArray.mk ⟨bT ps⟩ = BT at *
          generalize bE ps = BE at *
          go_wp2_with fail
          refine (H1.out _ s1).mono ?_; rintro e w2 ⟨rfl, hb2⟩
          have q4 := q3.on hb2
          have b2 := Below.on hbel hbel.size hb2
          go_wp2_with fail
          refine (H2.out _ q4).mono ?_; rintro e w3 ⟨rfl, hb3⟩
          have b3 := Below.on b2 b2.size hb3
          go_wp2_with fail
          refine (alive36 _).mono ?_; rintro e w6 ⟨rfl, hb6⟩
          have b6 := Below.on b3 b3.size hb6
          go_wp2
          go_ret
          exact ⟨rfl, b6⟩

end Go.Proofs.Ytdiibbokdfmcbaa
