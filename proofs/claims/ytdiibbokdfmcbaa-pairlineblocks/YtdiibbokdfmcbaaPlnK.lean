
/- Contract: Read of pairline's reference, any text; what is read is short. -/
import Derived.Test.YtdiibbokdfmcbaaPlnG
import Derived.Test.YtdiibbokdfmcbaaPlnH
import Derived.Test.YtdiibbokdfmcbaaPlnI
namespace Go.Proofs.Ytdiibbokdfmcbaa.Pln
open Go.RowKit Lin
set_option maxRecDepth 100000

theorem refRead_any (l : List UInt8) (w : World) (hn : l.length ≤ 100000) : Calls Try.prog 16 #[sv l] w (GivesP (rE l) (rP l) w) := by
  rcases ref_cases l with ⟨⟨x, hp⟩, hno⟩ | ⟨⟨D, y, x, hp, hx⟩, hno⟩ | ⟨⟨D, y, hp, hy⟩, hno⟩ | ⟨⟨Q, R, hp, hQ⟩, hno⟩ | ⟨Q, hQ⟩
  · rw [(rE_no l hno).1, (rE_no l hno).2]; exact refRead_few l w hn x hp
  · rw [(rE_no l hno).1, (rE_no l hno).2]; exact refRead_end l w hn D y x hp (.inl hx)
  · rw [(rE_no l hno).1, (rE_no l hno).2]; exact refRead_end l w hn D y [] hp (.inr ⟨rfl, hy⟩)
  · rw [(rE_no l hno).1, (rE_no l hno).2]; exact refRead_hole l w hn Q R hp hQ
  · exact refRead_good l w hn Q hQ

theorem bE_ok (ps : List Pr) (h : bE ps = 0) : ps.length ≤ 400 ∧ ∀ p ∈ ps, tE p.1 p.2 = 0 := by
  unfold bE at h
  split at h
  · cases h
  · next h4 => exact ⟨by omega, fun p hp => (fstE_ok _).1 h _ (List.mem_map.2 ⟨p, hp, rfl⟩)⟩
theorem rP_len (l : List UInt8) : (rP l).length ≤ 400 ∧ ∀ p ∈ rP l, p.1.length ≤ 100000 ∧ p.2.length ≤ 100000 := by
  by_cases h : rE l = 0
  · obtain ⟨h1, h2⟩ := bE_ok _ (b_r l h).1
    refine ⟨h1, fun p hp => ?_⟩
    have := tE_ok _ _ (h2 p hp)
    omega
  · rw [rP_bad l h]; simp

end Go.Proofs.Ytdiibbokdfmcbaa.Pln
