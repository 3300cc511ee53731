
/- law21's alive; the walk of law21.PacketTells. -/
import Derived.Test.YtblfllidejdehaaPkC
namespace Go.Proofs.Ytblfllidejdehaa
open Go.RowKit
set_option linter.unusedSimpArgs false
set_option linter.unusedVariables false

def exP6 : List UInt8 := pkt6 0 0 0 0 (zb 16) (zb 16) []
theorem exP6_len : exP6.length = 40 := by decide +kernel
theorem exP6_w : kW exP6 = true := by decide +kernel
theorem exP6_w2 : kW (exP6 ++ [0]) = false := by decide +kernel
theorem exNil : kE [] = 3 := rfl

theorem wpList_app1G {ops : Array Oper} {rest : List Oper} {o : Oper} {a : Act} {Q : Exit → Act → World → Prop} (w : World) (hw : Region.wanted o (yielded ops a.tmps) = true) (s x : Operand)
    (ho : o.op = .call { callee := .builtin .append, args := #[s, x], argTypes := #[22, 22] })
    (base : Nat) (v : Value) (n : Nat) (l : List UInt8) (hs : a.eval s = v) (hown : Own w base v n l)
    (ad : Addr) (c' : Nat) (c : UInt8) (hx : a.eval x = .slice (some ad) 1 c') (hc : w.cell? ad = some (bv c))
    (h63 : n + 1 ≤ 140737488355328) (hbase : base ≤ w.heap.size)
    (h : ∀ v' w', Own w' base v' (n + 1) (l ++ [c]) → w.grownBy w' v.ownBlock → wpList Try.prog ops Q rest (a.put o.dst v') w') : wpList Try.prog ops Q (o :: rest) a w := by
  refine wpList_on hw ?_
  obtain ⟨i, hi, hz, hsz, hby⟩ := info_parts Try.infoU8
  refine wp_append_own w s x 22 ho base 5 i (.int .u8 0) 1 1 Try.underlying22 hi hz hsz hby rfl (by decide) v n _ hs hown ad 1 c' [bv c] hx rfl ?_ ?_ (by simp only [maxLen]; omega) (by omega) hbase ?_
  · intro j u hj
    match j, hj with
    | 0, hj => simp at hj; subst hj; simpa [Addr.add] using hc
  · intro u hu; simp at hu; subst hu; rfl
  · intro v' w' h2 h3 _
    exact h v' w' (by unfold Own; simpa using h2) h3

set_option maxHeartbeats 4000000 in
set_option maxRecDepth 100000 in
theorem alive21 (w : World) : Calls Try.prog 19 #[] w fun e w' => e = .returned (.bool true) ∧ Below w.heap.size w w' := by
  have hz := (zero_of_info Try.zeroHead).1
  have hza := (zero_of_info Try.zeroAddr).1
  have hne : ¬ zH = #[] := by intro h; have := zH_size; rw [h] at this; cases this
  have zne : ¬ adv 0 (zb 16) = #[] := by simp [adv]
  have HP := Lib.hid (kparse_any none 0 0 [] w (by omega) (by omega) (by simp [maxLen]) ⟨rfl, fun h => absurd h (by omega)⟩)
  rw [show kE [] = 3 from rfl] at HP
  have hsz := kH_size []
  have o1 := kH_one []
  generalize kH [] = M at *
  have HQ := Lib.hid (fun W => put6_in 0 0 0 0 0 0 0 0 0 (zb 16) (zb 16) rfl rfl none 0 0 [] W (by omega) ⟨rfl, fun h => absurd h (by omega)⟩ (by omega) (by omega) (by omega) (by omega))
  rw [show pkt6 0 0 0 0 (zb 16) (zb 16) [] = exP6 from rfl] at HQ
  have z6 : (adv 6 (zb 16)).size = 17 := rfl
  have o6 : ((adv 6 (zb 16)).all fun x => x.oneCell') = true := adv_one _ _
  have zi6 : (Try.prog.info? 26).map (·.size) = some (adv 6 (zb 16)).size := by kernel_rfl
  go_enter Try.func19, Try.ntmps19
  go_wp2_with fail
  refine HP.out.mono ?_
  rintro e w1 ⟨rfl, hb1⟩
  have b2 : Below w.heap.size w ((w1.alloc (.cells M 28)).alloc (.cells (adv 6 (zb 16)) 26)) := (hb1.alloc hb1.size _).alloc (by simp; have := hb1.size; omega) _
  have k2 : Blk ((w1.alloc (.cells M 28)).alloc (.cells (adv 6 (zb 16)) 26)) (w1.heap.size + 1) 26 (adv 6 (zb 16)) := blk_new' _ _ _ _ (by simp)
  go_wp2_with (first
    | (refine wpList_allocStore (cs := M) rfl rfl 28 ?ho (.tmp 1) (.tmp 8) ?ho2 Try.zeroHead ?hz ?hx ?hy ?hn ?h1 ?_
       case ho => with_reducible rfl
       case ho2 => rfl
       case hz => exact zH_size
       case hx => rfl
       case hy => rfl
       case hn => exact hsz
       case h1 => exact o1)
    | (refine wpList_allocStore (cs := adv 6 (zb 16)) rfl rfl 26 ?ho (.tmp 3) (.tmp 10) ?ho2 Try.zeroAddr ?hz ?hx ?hy ?hn ?h1 ?_
       case ho => with_reducible rfl
       case ho2 => rfl
       case hz => rfl
       case hx => rfl
       case hy => rfl
       case hn => exact z6
       case h1 => exact o6
       rw [show (w1.alloc (.cells M 28)).heap.size = w1.heap.size + 1 by simp]
       generalize ((w1.alloc (.cells M 28)).alloc (.cells (adv 6 (zb 16)) 26)) = W2 at *)
    | (refine wpList_loadBlk (g := w1.heap.size + 1) (t := 26) (cs := adv 6 (zb 16)) rfl 26 (.tmp 3) ?ho ?hx ?hA _ Try.underlying26 rfl ?hi ?_
       case ho => with_reducible rfl
       case hx => rfl
       case hA => exact k2
       case hi => exact zi6)
    | (refine wpList_build rfl 28 ?fs ?ho (.agg (hdv [0, 0, 0, ((0 : Nat) : Int), ((0 : Nat) : Int), 0, 0, ((0 : Nat) : Int), ((0 : Nat) : Int)] (adv 6 (zb 16)) (adv 6 (zb 16)))) ?hr ?_
       case ho => with_reducible rfl
       case hr =>
         intro W
         change _ = _
         kernel_rfl)
    | fail)
  refine (HQ.out _).mono ?_
  rintro e w3 ⟨x, rfl, ho3, hb3⟩
  have b3 := Below.on b2 b2.size hb3
  have o3 := ho3.base (b' := w.heap.size) b2.size
  clear k2 b2 hb3 ho3 HP HQ hb1
  obtain ⟨g3, c3, rfl, hg3⟩ := o3.blk (by omega)
  obtain ⟨A', c', e', h1, h2, s3⟩ := o3.shows
  injection e' with e1 e2 e3
  subst e1
  subst e3
  have HW := Lib.hid (fun (W : World) (hW : Below w3.heap.size w3 W) => whole_any (some ⟨g3, 0, none⟩) 40 c3 exP6 W (by omega) h1 h2 ((s3.below hW).up hW.size))
  rw [exP6_w] at HW
  go_wp2_with fail
  refine (HW.out _ (Below.refl _ _)).mono ?_
  rintro e w4 ⟨rfl, hb4⟩
  have b4 := Below.on b3 b3.size hb4
  have o4 := o3.keep hb4
  clear HW s3
  have o5 : Own (w4.alloc (.cells #[.int .u8 0] 5)) w.heap.size (.slice (some ⟨g3, 0, none⟩) 40 c3) 40 exP6 := o4.keep ((Below.refl _ _).alloc (Nat.le_refl _) _)
  have b5 : Below w.heap.size w (w4.alloc (.cells #[.int .u8 0] 5)) := b4.alloc b4.size _
  have hc5 : (w4.alloc (.cells #[.int .u8 0] 5)).cell? ⟨w4.heap.size, 0, none⟩ = some (bv 0) := one_new w4 _ _ _ rfl
  generalize hW4 : w4.alloc (.cells #[.int .u8 0] 5) = W5 at *
  go_wp2_with (first
    | (at_builtin; refine wpList_app1G W5 rfl (.tmp 29) (.tmp 30) ?ho w.heap.size _ 40 exP6 ?hs o5 ⟨w4.heap.size, 0, none⟩ 1 0 ?hx hc5 (by omega) b5.size ?_
       case ho => with_reducible rfl
       case hs => rfl
       case hx => rfl
       intro v6 w6 ho6 hg6)
    | fail)
  have b6 : Below w.heap.size w w6 := b5.grown hg6 b5.size (fun k hk => by simp [Value.ownBlock] at hk; omega)
  obtain ⟨A6, c6, e6, h3, h4, s6⟩ := ho6.shows
  subst e6
  have HV := Lib.hid (whole_any A6 (40 + 1) c6 (exP6 ++ [0]) w6 (by omega) h3 h4 s6)
  rw [exP6_w2] at HV
  refine HV.out.mono ?_
  rintro e w7 ⟨rfl, hb7⟩
  have b7 := Below.on b6 b6.size hb7
  clear HV s6 ho6 hg6 o5 b5 hc5 b6 hb7 o4 b4 o3 b3
  go_wp2
  go_ret
  exact ⟨rfl, b7⟩

end Go.Proofs.Ytblfllidejdehaa
