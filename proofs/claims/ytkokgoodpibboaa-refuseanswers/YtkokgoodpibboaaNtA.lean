
/- Contracts: notice.behind, notice.Bytes. -/
import Derived.Test.YtkokgoodpibboaaPkH
namespace Go.Proofs.Ytkokgoodpibboaa
open Go.RowKit
set_option maxRecDepth 100000
set_option linter.unusedSimpArgs false
set_option linter.unusedVariables false

theorem Try.infoSl : (Try.prog.info? 43).map (fun i => (i.zero, i.size, i.bytes)) = some (some (.slice none 0 0), 1, 24) := by kernel_rfl
/-- Slices in rows of the call's own. -/
abbrev OwnP (w : World) (base : Nat) (v : Value) (n : Nat) (L : List Part) : Prop := GOwn pv 43 w base v n L

/-- Parts appended to a row of parts of the call's own. -/
theorem wpList_appParts {ops : Array Oper} {rest : List Oper} {o : Oper} {a : Act} {Q : Exit → Act → World → Prop} (w : World) (hgd : o.guard = none) (s x : Operand)
    (ho : o.op = .call { callee := .builtin .append, args := #[s, x], argTypes := #[92, 92] })
    (base : Nat) (v : Value) (n : Nat) (L : List Part) (hs : a.eval s = v) (hown : OwnP w base v n L)
    (A : Option Addr) (m c' B : Nat) (K : List Part) (hx : a.eval x = .slice A m c') (hk : Sh pv w B A m K)
    (h63 : n + m ≤ 1000000) (hbase : base ≤ w.heap.size)
    (h : ∀ v' w', OwnP w' base v' (n + m) (L ++ K) → w.grownBy w' v.ownBlock → wpList Try.prog ops Q rest (a.put o.dst v') w') : wpList Try.prog ops Q (o :: rest) a w := by
  obtain ⟨i, hi, hz, hsz, hby⟩ := info_parts Try.infoSl
  cases A with
  | some ad =>
    refine wpList_append_own w hgd s x 92 ho base 43 i (.slice none 0 0) 1 24 Try.underlying92 hi hz hsz hby rfl (by decide) v n _ hs hown ad m c' (K.map pv) hx (by simp [hk.len]) ?_ ?_ (by simp only [maxLen]; omega) (by omega) hbase ?_
    · intro j u hj
      simp at hj
      obtain ⟨y, hy, rfl⟩ := hj
      obtain ⟨hjl, rfl⟩ := List.getElem?_eq_some_iff.1 hy
      obtain ⟨b, off, e, _, hc⟩ := hk.2 (by have := hk.len; omega)
      injection e with e
      subst e
      rw [Go.WideShapes.add_plain]
      exact hc j hjl
    · intro u hu; simp at hu; obtain ⟨y, _, rfl⟩ := hu; rfl
    · intro v' w' h2 h3 _
      exact h v' w' (by unfold OwnP GOwn; simpa using h2) h3
  | none =>
    have hm : m = 0 := by
      rcases Nat.eq_zero_or_pos m with h0 | h0
      · exact h0
      · obtain ⟨_, _, e, _⟩ := hk.2 h0
        cases e
    subst hm
    obtain rfl : K = [] := List.eq_nil_of_length_eq_zero hk.len
    obtain ⟨A', c2, rfl, hnc, _, _⟩ := hown.sh
    refine wpList_plain hgd fun _ hK => ?_
    have hr := run_append_nil (P := Try.prog) w 92 o.type 43 i Try.underlying92 hi A' n c2 c' hnc
    unfold Oper.wp execOp
    simp only [ho, resolve, invoke, builtin, Sem.run_bind, Sem.run_pure, Result.andThen_ok, List.map_toArray, List.map_cons, List.map_nil, hs, hx, hr]
    exact hK _ _ (h _ _ (by simpa using hown) ⟨rfl, rfl, rfl, Nat.le_refl _, fun _ _ _ => rfl⟩)

theorem ownP_lit0 (w : World) (base : Nat) (hb : base ≤ w.heap.size) : OwnP (w.alloc (.cells #[] 43)) base (.slice (some ⟨w.heap.size, 0, none⟩) 0 0) 0 [] := by
  refine ⟨rfl, .inr ⟨w.heap.size, 0, #[], rfl, hb, ?_, Nat.le_refl _, by simp [maxLen], rfl, rfl⟩⟩
  show (w.heap.push _)[w.heap.size]? = _
  simp

theorem behind_any (A : Option Addr) (n c : Nat) (L : List Part) (B : Option Addr) (m d : Nat) (l : List UInt8) (w : World) (hn : n ≤ 1000) (h : Parts w w.heap.size A n L) (hl : Shows w w.heap.size B m l) :
    Calls Try.prog 116 #[.slice A n c, .slice B m d] w fun e w' => ∃ A' c', e = .returned (.slice A' (n + 1) c') ∧ Parts w' w'.heap.size A' (n + 1) (L ++ [⟨B, m, d, l⟩]) ∧ Below w.heap.size w w' := by
  obtain ⟨hS, hP⟩ := h
  have b1 : Below w.heap.size w (w.alloc (.cells #[] 43)) := (Below.refl _ _).alloc (Nat.le_refl _) _
  go_enter Try.func116, Try.ntmps116
  go_wp2_with (first
    | (at_builtin; refine wpList_appParts _ rfl _ _ rfl w.heap.size _ 0 [] rfl (ownP_lit0 w w.heap.size (Nat.le_refl _)) A n c w.heap.size L rfl (hS.alloc (Nat.le_refl _) _) (by omega) (by simp) ?_))
  intro v1 w1 ho1 hg1
  have b2 : Below w.heap.size w w1 := b1.grown hg1 (by simp) (fun k hk => by simp [Value.ownBlock] at hk; omega)
  have b3 : Below w.heap.size w (w1.alloc (.cells #[.slice B m d] 43)) := b2.alloc b2.size _
  have s3 : Sh pv (w1.alloc (.cells #[.slice B m d] 43)) (w1.alloc (.cells #[.slice B m d] 43)).heap.size (some ⟨w1.heap.size, 0, none⟩) 1 [⟨B, m, d, l⟩] := sh_new pv 43 w1 #[.slice B m d] [⟨B, m, d, l⟩] rfl
  have ho1' : OwnP w1 w.heap.size v1 n L := by simpa using ho1
  have ho3 : OwnP (w1.alloc (.cells #[.slice B m d] 43)) w.heap.size v1 n L := by
    refine ⟨ho1'.1, ?_⟩
    rcases ho1'.2 with h2 | ⟨g, cap, cur, h3, h4, h5, h6⟩
    · exact .inl h2
    · exact .inr ⟨g, cap, cur, h3, h4, (((Below.refl w1.heap.size w1).alloc (Nat.le_refl _) _).block g (Array.getElem?_eq_some_iff.1 h5).1).trans h5, h6⟩
  clear ho1 ho1' hg1 b1 b2
  go_wp2_with (first
    | (at_builtin; refine wpList_appParts _ rfl _ _ rfl w.heap.size v1 n L rfl ho3 (some ⟨w1.heap.size, 0, none⟩) 1 1 _ [⟨B, m, d, l⟩] rfl s3 (by omega) b3.size ?_))
  intro v2 w2 ho2 hg2
  have b4 : Below w.heap.size w w2 := b3.grown hg2 b3.size (fun k hk => (ho3.lt k hk).1)
  obtain ⟨A', c', rfl, _, _, hsh⟩ := ho2.sh
  have hPP : Parts w2 w2.heap.size A' (n + 1) (L ++ [⟨B, m, d, l⟩]) := ⟨hsh, fun p hp => by
    rcases List.mem_append.1 hp with h | h
    · exact ((hP p h).below b4).up b4.size
    · simp at h; subst h; exact (hl.below b4).up b4.size⟩
  clear ho2 hg2 ho3 s3 b3 hsh hS hP hl
  go_wp2
  go_ret
  exact ⟨A', c', rfl, hPP, b4⟩

/-- A notice's bytes. -/
def noteL (k cd : UInt8) (ck : Nat) (l : List UInt8) : List UInt8 := [k, cd, UInt8.ofNat (ck / 256), UInt8.ofNat (ck % 256), 0, 0, 0, 0] ++ l
theorem noteL_len (k cd : UInt8) (ck : Nat) (l : List UInt8) : (noteL k cd ck l).length = 8 + l.length := by simp [noteL]; omega
theorem noteL_set (k cd : UInt8) (ck : Nat) (l : List UInt8) : ((noteL k cd 0 l).set 2 (UInt8.ofNat (ck / 256))).set 3 (UInt8.ofNat (ck % 256)) = noteL k cd ck l := by simp [noteL]

set_option maxHeartbeats 1000000 in
theorem nbytes_any (k cd : UInt8) (A : Option Addr) (n c : Nat) (l : List UInt8) (PA : Option Addr) (pn pc : Nat) (L : List Part) (w : World) (hn : n ≤ 100000) (hpn : pn ≤ 1000) (hJ : (joinP L).length ≤ 1000000) (hs : Shows w w.heap.size A n l) (hp : Parts w w.heap.size PA pn L) :
    Calls Try.prog 82 #[bv k, bv cd, .slice A n c, .slice PA pn pc] w fun e w' => ∃ v, e = .returned v ∧ Own w' w.heap.size v (8 + n) (noteL k cd (65535 - osum (joinP L ++ noteL k cd 0 l)) l) ∧ Below w.heap.size w w' := by
  have hll := hs.len
  have hA0 : Own (w.alloc (.cells #[bv k, bv cd, .int .u8 0, .int .u8 0, .int .u8 0, .int .u8 0, .int .u8 0, .int .u8 0] 5)) w.heap.size (.slice (some ⟨w.heap.size, 0, none⟩) 8 8) 8 [k, cd, 0, 0, 0, 0, 0, 0] := own_lit w w.heap.size 8 _ _ rfl (Nat.le_refl _) rfl (by omega)
  have b0 : Below w.heap.size w (w.alloc (.cells #[bv k, bv cd, .int .u8 0, .int .u8 0, .int .u8 0, .int .u8 0, .int .u8 0, .int .u8 0] 5)) := (Below.refl _ _).alloc (Nat.le_refl _) _
  have s0 := (hs.below b0).up b0.size
  go_enter Try.func82, Try.ntmps82
  go_wp2_with (first
    | (at_builtin; refine wpList_appAny _ rfl _ _ rfl w.heap.size _ 8 _ rfl hA0 A n c _ l rfl s0 (by omega) (by simp) ?_))
  intro v1 w1 ho1 hg1
  have b1 : Below w.heap.size w w1 := b0.grown hg1 b0.size (fun k hk => (hA0.lt k hk).1)
  clear hg1 hA0 b0 s0
  have ho1' : Own w1 w.heap.size v1 (8 + n) (noteL k cd 0 l) := ho1
  clear ho1
  obtain ⟨g, cap, rfl, hg⟩ := ho1'.blk (by omega)
  have s1 := ho1'.shown
  have p1 : Parts w1 w1.heap.size PA pn L := ⟨(hp.1.below b1).up b1.size, fun p h => ((hp.2 p h).below b1).up b1.size⟩
  have HB := Lib.hid (behind_any PA pn pc L (some ⟨g, 0, none⟩) (8 + n) cap (noteL k cd 0 l) w1 hpn p1 s1)
  clear s1 p1 hp hs
  go_wp2_with fail
  refine HB.out.mono ?_
  rintro e w2 ⟨A2, c2, rfl, p2, hb2⟩
  have b2 := Below.on b1 b1.size hb2
  have o2 := ho1'.keep hb2
  have hj2 : joinP (L ++ [⟨some ⟨g, 0, none⟩, 8 + n, cap, noteL k cd 0 l⟩]) = joinP L ++ noteL k cd 0 l := by simp [joinP]
  have HC := Lib.hid (sumCheck_any A2 (pn + 1) c2 _ w2 (by omega) (by rw [hj2, List.length_append, noteL_len]; omega) p2)
  rw [hj2] at HC
  clear p2 HB b1 hb2 ho1' hj2
  have lck : 65535 - osum (joinP L ++ noteL k cd 0 l) ≤ 65535 := by omega
  generalize hck : 65535 - osum (joinP L ++ noteL k cd 0 l) = ck at *
  have HCK := Lib.hid hck
  clear hck
  have e1 : (UInt8.ofNat (ck / 256)).toNat = ck / 256 := by simp; omega
  have e2 : (UInt8.ofNat (ck % 256)).toNat = ck % 256 := by simp
  have HN := Lib.hid (noteL_set k cd ck l)
  generalize UInt8.ofNat (ck / 256) = x1 at *
  generalize UInt8.ofNat (ck % 256) = x2 at *
  have f1 : (ck : Int) / 256 % 256 = (x1.toNat : Int) := by omega
  have f1' : (ck : Int) / 256 = (x1.toNat : Int) := by omega
  have f2 : (ck : Int) % 256 = (x2.toNat : Int) := by omega
  have ick : (ck : Int) ≤ 65535 := by omega
  obtain ⟨old2, hold2, _⟩ := o2.at (j := 2) (by omega)
  have hfr2 := World.ownsRow.frozenAt o2 2
  have o3 := (o2.put 2 x1).1
  have b3 : Below w.heap.size w (w2.setCell ⟨g, 2, none⟩ (bv x1)) := b2.grown (o2.put 2 x1).2 b2.size (fun k hk => by injection hk with hk; omega)
  obtain ⟨old3, hold3, _⟩ := o3.at (j := 3) (by omega)
  have hfr3 := World.ownsRow.frozenAt o3 3
  have o4 := (o3.put 3 x2).1
  have b4 : Below w.heap.size w ((w2.setCell ⟨g, 2, none⟩ (bv x1)).setCell ⟨g, 3, none⟩ (bv x2)) := b3.grown (o3.put 3 x2).2 b3.size (fun k hk => by injection hk with hk; omega)
  rw [HN.out] at o4
  have i2 : (2 : Int) < 8 + (n : Int) := by omega
  have i3 : (3 : Int) < 8 + (n : Int) := by omega
  clear e1 e2 o3 b3 o2 b2
  go_wp2_with fail
  refine HC.out.mono ?_
  rintro e w' ⟨rfl, rfl⟩
  go_wp2
  go_ret
  exact ⟨_, rfl, by rw [HCK.out]; exact o4, b4⟩

end Go.Proofs.Ytkokgoodpibboaa
