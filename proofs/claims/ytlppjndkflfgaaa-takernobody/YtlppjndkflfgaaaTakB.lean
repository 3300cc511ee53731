
/- Contracts: (*taker.Taker).may where it fails, take, Bytes. -/
import Derived.Test.YtlppjndkflfgaaaTakA
namespace Go.Proofs.Ytlppjndkflfgaaa
open Go.RowKit

theorem Tk.lt {w : World} {g n c : Nat} {A : Option Addr} {f : Int} {l : List UInt8} (h : Tk w g A n c f l) : g < w.heap.size := (Array.getElem?_eq_some_iff.1 h.1).1
theorem Tk.on {w w' : World} {g n c : Nat} {A : Option Addr} {f : Int} {l : List UInt8} (h : Tk w g A n c f l) (hb : Below w.heap.size w w') : Tk w' g A n c f l :=
  ⟨by rw [hb.block g h.lt]; exact h.1, h.2.1, h.2.2.1, h.2.2.2.keep fun p hp => hb.cell (by have := h.lt; omega)⟩

theorem may_arg (g : Nat) (A : Option Addr) (n c : Nat) (m : Int) (l : List UInt8) (w : World) (h : Tk w g A n c 0 l) :
    Calls Try.prog 19 #[.pointer (some ⟨g, 0, none⟩), .bool false, .int .i64 m] w fun e w' => e = .returned (.bool false) ∧ Tk w' g A n c 1 l ∧ w.grownBy w' (some g) := by
  have h1 := h.c1
  have h2 := h.f0 1
  have HP := Lib.hid (tk_put1 h 1)
  have h3 := HP.out.1.c1
  clear h
  go_enter Try.func19, Try.ntmps19
  go_wp2
  go_ret
  exact ⟨rfl, HP.out.1, HP.out.2⟩
theorem may_short (g : Nat) (A : Option Addr) (n c : Nat) (m : Int) (l : List UInt8) (w : World) (h : Tk w g A n c 0 l) (hm : (n : Int) < m) :
    Calls Try.prog 19 #[.pointer (some ⟨g, 0, none⟩), .bool true, .int .i64 m] w fun e w' => e = .returned (.bool false) ∧ Tk w' g A n c 3 l ∧ w.grownBy w' (some g) := by
  have h0 := h.c0
  have h1 := h.c1
  have h2 := h.f0 1
  have HP := Lib.hid (tk_put1 h 3)
  have h3 := HP.out.1.c1
  clear h
  go_enter Try.func19, Try.ntmps19
  go_wp2
  go_ret
  exact ⟨rfl, HP.out.1, HP.out.2⟩

/-- Where the rest begins. -/
abbrev restAt (A : Option Addr) (c m : Nat) : Option Addr := if c = m then A else A.map (·.add m)

theorem take_any (g : Nat) (A : Option Addr) (n c m : Nat) (f : Int) (l : List UInt8) (w : World) (h : Tk w g A n c f l) (hm : m ≤ n) :
    Calls Try.prog 20 #[.pointer (some ⟨g, 0, none⟩), .int .i64 (m : Int)] w fun e w' => e = .returned (.slice A m c) ∧ Tk w' g (restAt A c m) (n - m) (c - m) f (l.drop m) ∧ w.grownBy w' (some g) := by
  have h0 := h.c0
  have h2 := h.f0 0
  have hnc := h.2.1
  have hcm := h.2.2.1
  have HP := Lib.hid (tk_put0 h (restAt A c m) (n - m) (c - m) (l.drop m) (by omega) (by omega) (Sh.back (f := bv) h.2.2.2 hm hnc))
  have hmc : m ≤ c := by omega
  clear h
  by_cases hx : c = m
  · have e : restAt A c m = A := if_pos hx
    rw [e] at HP ⊢
    have HQ := Lib.hid HP.out
    obtain rfl : c = m := hx
    obtain rfl : n = c := by omega
    clear HP e
    go_enter Try.func20, Try.ntmps20
    go_wp2
    go_ret
    exact ⟨rfl, by simpa using HQ.out.1, by simpa using HQ.out.2⟩
  · have e : restAt A c m = A.map (·.add m) := if_neg hx
    rw [e] at HP ⊢
    clear e
    go_enter Try.func20, Try.ntmps20
    go_wp2
    go_ret
    exact ⟨rfl, HP.out.1, HP.out.2⟩

/-- Bytes, where they can be taken. -/
theorem bytes_ok (g : Nat) (A : Option Addr) (n c m : Nat) (l : List UInt8) (w : World) (h : Tk w g A n c 0 l) (hm : m ≤ n) (hn : n ≤ 1000000) :
    Calls Try.prog 12 #[.pointer (some ⟨g, 0, none⟩), .int .i64 (m : Int)] w fun e w' =>
      ∃ b, e = .returned (.slice (some ⟨b, 0, none⟩) m m) ∧ w.heap.size ≤ b ∧ Own w' b (.slice (some ⟨b, 0, none⟩) m m) m (l.take m) ∧ Tk w' g (restAt A c m) (n - m) (c - m) 0 (l.drop m) ∧ w.grownBy w' (some g) := by
  have HM := Lib.hid (may_ok g A n c m l w h hm)
  have HT := Lib.hid (take_any g A n c m 0 l w h hm)
  have hsf : Shows w g A m (l.take m) := Sh.front (f := bv) h.2.2.2 hm
  have hgl := h.lt
  clear h
  go_enter Try.func12, Try.ntmps12
  go_wp2_with fail
  refine HM.out.mono ?_; rintro e w1 ⟨rfl, rfl⟩
  go_wp2_with fail
  refine HT.out.mono ?_; rintro e w1 ⟨rfl, ht1, hg1⟩
  have hs1 : Shows w1 w1.heap.size A m (l.take m) := (hsf.keep fun p hp => World.cell?_of_block (hg1.block p.block (by omega) (fun e => by injection e with e; omega))).up (by have := hg1.size; omega)
  go_wp2_with fail
  refine (clone_any A m c (l.take m) w1 (by omega) hs1).mono ?_
  rintro e w2 ⟨rfl, ho2, hb2⟩
  have ht2 := ht1.on hb2
  have hg2 : w.grownBy w2 (some g) := ⟨hb2.os.trans hg1.os, hb2.tape.trans hg1.tape, hb2.output.trans hg1.output, Nat.le_trans hg1.size hb2.size, fun k hk hne => (hb2.block k (by have := hg1.size; omega)).trans (hg1.block k hk hne)⟩
  have hsz := hg1.size
  clear ht1 hg1 hs1 hb2 hsf
  go_wp2
  go_ret
  exact ⟨_, rfl, hsz, ho2, ht2, hg2⟩

end Go.Proofs.Ytlppjndkflfgaaa
