import Derived.Test.YtnnkcjolgbpklaaGreatC8
set_option linter.unusedVariables false
section
open Go Go.Ev
set_option maxRecDepth 1000000
noncomputable section
namespace Go.Proofs.YtnnkcjolgbpklaaGreat.G
variable (cal:Cal) (k:Nat)
noncomputable def KK:Nat:=19999
theorem tbl_nil(F:Nat):EX P A F ((Tr.nil:Tr (Cal→List Value→Hp→Nat→Res)).get):=by
 intro f S h
 rw[Tr.get_nil] at h
 cases h
theorem bV{F:Nat}{t:Tr (Cal→List Value→Hp→Nat→Res)}{f:Nat}{S:Cal→List Value→Hp→Nat→Res}(ht:EX P A F t.get)
  (h:∀ cal args H n r,S cal args H n=some r→aX P cal A F f args H n=some r):EX P A F (t.set f (some S)).get:=by
 intro g S' e
 rw[Tr.get_set] at e
 split at e
 ·rename_i e1
  cases e
  rw[e1]
  exact h
 ·exact ht g S' e
section
variable {ρ:Type}
end
noncomputable def ent16(args:List Value)(H:Hp)(n:Nat):Res:=match args with
 | []=>C16_0 cal KK  H n
 | _=>none
theorem ok16(args:List Value)(H:Hp)(n:Nat)(r:Value × Hp × Nat)(e:ent16 cal args H n=some r):aX P cal A (KK+1) 16 args H n=some r:=by
 unfold ent16 at e
 split at e
 ·exact(h16_0 ..).trans e
 ·cases e
noncomputable def ent19(args:List Value)(H:Hp)(n:Nat):Res:=match args with
 | [v0,v1]=>C19_0 cal KK v0 v1 H n
 | _=>none
theorem ok19(args:List Value)(H:Hp)(n:Nat)(r:Value × Hp × Nat)(e:ent19 cal args H n=some r):aX P cal A (KK+1) 19 args H n=some r:=by
 unfold ent19 at e
 split at e
 ·exact(h19_0 ..).trans e
 ·cases e
noncomputable def ent23(args:List Value)(H:Hp)(n:Nat):Res:=match args with
 | [v0,v1]=>C23_0 cal KK v0 v1 H n
 | _=>none
theorem ok23(args:List Value)(H:Hp)(n:Nat)(r:Value × Hp × Nat)(e:ent23 cal args H n=some r):aX P cal A (KK+1) 23 args H n=some r:=by
 unfold ent23 at e
 split at e
 ·exact(h23_0 ..).trans e
 ·cases e
noncomputable def ent25(args:List Value)(H:Hp)(n:Nat):Res:=match args with
 | [v0,v1]=>C25_0 cal KK v0 v1 H n
 | _=>none
theorem ok25(args:List Value)(H:Hp)(n:Nat)(r:Value × Hp × Nat)(e:ent25 cal args H n=some r):aX P cal A (KK+1) 25 args H n=some r:=by
 unfold ent25 at e
 split at e
 ·exact(h25_0 ..).trans e
 ·cases e
noncomputable def ent32(args:List Value)(H:Hp)(n:Nat):Res:=match args with
 | [v0]=>C32_0 cal KK v0 H n
 | _=>none
theorem ok32(args:List Value)(H:Hp)(n:Nat)(r:Value × Hp × Nat)(e:ent32 cal args H n=some r):aX P cal A (KK+1) 32 args H n=some r:=by
 unfold ent32 at e
 split at e
 ·exact(h32_0 ..).trans e
 ·cases e
noncomputable def ent34(args:List Value)(H:Hp)(n:Nat):Res:=match args with
 | [v0,v1,v2]=>C34_0 cal KK v0 v1 v2 H n
 | _=>none
theorem ok34(args:List Value)(H:Hp)(n:Nat)(r:Value × Hp × Nat)(e:ent34 cal args H n=some r):aX P cal A (KK+1) 34 args H n=some r:=by
 unfold ent34 at e
 split at e
 ·exact(h34_0 ..).trans e
 ·cases e
noncomputable def ent42(args:List Value)(H:Hp)(n:Nat):Res:=match args with
 | [v0,v1]=>C42_0 cal KK v0 v1 H n
 | _=>none
theorem ok42(args:List Value)(H:Hp)(n:Nat)(r:Value × Hp × Nat)(e:ent42 cal args H n=some r):aX P cal A (KK+1) 42 args H n=some r:=by
 unfold ent42 at e
 split at e
 ·exact(h42_0 ..).trans e
 ·cases e
noncomputable def ent48(args:List Value)(H:Hp)(n:Nat):Res:=match args with
 | [v0,v1]=>C48_0 cal KK v0 v1 H n
 | _=>none
theorem ok48(args:List Value)(H:Hp)(n:Nat)(r:Value × Hp × Nat)(e:ent48 cal args H n=some r):aX P cal A (KK+1) 48 args H n=some r:=by
 unfold ent48 at e
 split at e
 ·exact(h48_0 ..).trans e
 ·cases e
noncomputable def ent53(args:List Value)(H:Hp)(n:Nat):Res:=match args with
 | []=>C53_0 cal KK  H n
 | _=>none
theorem ok53(args:List Value)(H:Hp)(n:Nat)(r:Value × Hp × Nat)(e:ent53 cal args H n=some r):aX P cal A (KK+1) 53 args H n=some r:=by
 unfold ent53 at e
 split at e
 ·exact(h53_0 ..).trans e
 ·cases e
noncomputable def ent54(args:List Value)(H:Hp)(n:Nat):Res:=match args with
 | []=>C54_0 cal KK  H n
 | _=>none
theorem ok54(args:List Value)(H:Hp)(n:Nat)(r:Value × Hp × Nat)(e:ent54 cal args H n=some r):aX P cal A (KK+1) 54 args H n=some r:=by
 unfold ent54 at e
 split at e
 ·exact(h54_0 ..).trans e
 ·cases e
noncomputable def ent55(args:List Value)(H:Hp)(n:Nat):Res:=match args with
 | [v0]=>C55_0 cal KK v0 H n
 | _=>none
theorem ok55(args:List Value)(H:Hp)(n:Nat)(r:Value × Hp × Nat)(e:ent55 cal args H n=some r):aX P cal A (KK+1) 55 args H n=some r:=by
 unfold ent55 at e
 split at e
 ·exact(h55_0 ..).trans e
 ·cases e
noncomputable def ent57(args:List Value)(H:Hp)(n:Nat):Res:=match args with
 | [v0,v1]=>C57_0 cal KK v0 v1 H n
 | _=>none
theorem ok57(args:List Value)(H:Hp)(n:Nat)(r:Value × Hp × Nat)(e:ent57 cal args H n=some r):aX P cal A (KK+1) 57 args H n=some r:=by
 unfold ent57 at e
 split at e
 ·exact(h57_0 ..).trans e
 ·cases e
noncomputable def ent58(args:List Value)(H:Hp)(n:Nat):Res:=match args with
 | [v0]=>C58_0 cal KK v0 H n
 | _=>none
theorem ok58(args:List Value)(H:Hp)(n:Nat)(r:Value × Hp × Nat)(e:ent58 cal args H n=some r):aX P cal A (KK+1) 58 args H n=some r:=by
 unfold ent58 at e
 split at e
 ·exact(h58_0 ..).trans e
 ·cases e
noncomputable def ent59(args:List Value)(H:Hp)(n:Nat):Res:=match args with
 | [v0,v1]=>C59_0 cal KK v0 v1 H n
 | _=>none
theorem ok59(args:List Value)(H:Hp)(n:Nat)(r:Value × Hp × Nat)(e:ent59 cal args H n=some r):aX P cal A (KK+1) 59 args H n=some r:=by
 unfold ent59 at e
 split at e
 ·exact(h59_0 ..).trans e
 ·cases e
noncomputable def ent63(args:List Value)(H:Hp)(n:Nat):Res:=match args with
 | [v0,v1]=>C63_0 cal KK v0 v1 H n
 | _=>none
theorem ok63(args:List Value)(H:Hp)(n:Nat)(r:Value × Hp × Nat)(e:ent63 cal args H n=some r):aX P cal A (KK+1) 63 args H n=some r:=by
 unfold ent63 at e
 split at e
 ·exact(h63_0 ..).trans e
 ·cases e
noncomputable def ent64(args:List Value)(H:Hp)(n:Nat):Res:=match args with
 | [v0,v1]=>C64_0 cal KK v0 v1 H n
 | _=>none
theorem ok64(args:List Value)(H:Hp)(n:Nat)(r:Value × Hp × Nat)(e:ent64 cal args H n=some r):aX P cal A (KK+1) 64 args H n=some r:=by
 unfold ent64 at e
 split at e
 ·exact(h64_0 ..).trans e
 ·cases e
noncomputable def ent66(args:List Value)(H:Hp)(n:Nat):Res:=match args with
 | [v0]=>C66_0 cal KK v0 H n
 | _=>none
theorem ok66(args:List Value)(H:Hp)(n:Nat)(r:Value × Hp × Nat)(e:ent66 cal args H n=some r):aX P cal A (KK+1) 66 args H n=some r:=by
 unfold ent66 at e
 split at e
 ·exact(h66_0 ..).trans e
 ·cases e
noncomputable def ent67(args:List Value)(H:Hp)(n:Nat):Res:=match args with
 | [v0]=>C67_0 cal KK v0 H n
 | _=>none
theorem ok67(args:List Value)(H:Hp)(n:Nat)(r:Value × Hp × Nat)(e:ent67 cal args H n=some r):aX P cal A (KK+1) 67 args H n=some r:=by
 unfold ent67 at e
 split at e
 ·exact(h67_0 ..).trans e
 ·cases e
noncomputable def ent71(args:List Value)(H:Hp)(n:Nat):Res:=match args with
 | [v0,v1,v2]=>C71_0 cal KK v0 v1 v2 H n
 | _=>none
theorem ok71(args:List Value)(H:Hp)(n:Nat)(r:Value × Hp × Nat)(e:ent71 cal args H n=some r):aX P cal A (KK+1) 71 args H n=some r:=by
 unfold ent71 at e
 split at e
 ·exact(h71_0 ..).trans e
 ·cases e
noncomputable def ent76(args:List Value)(H:Hp)(n:Nat):Res:=match args with
 | [v0,v1]=>C76_0 cal KK v0 v1 H n
 | _=>none
theorem ok76(args:List Value)(H:Hp)(n:Nat)(r:Value × Hp × Nat)(e:ent76 cal args H n=some r):aX P cal A (KK+1) 76 args H n=some r:=by
 unfold ent76 at e
 split at e
 ·exact(h76_0 ..).trans e
 ·cases e
noncomputable def ent77(args:List Value)(H:Hp)(n:Nat):Res:=match args with
 | [v0]=>C77_0 cal KK v0 H n
 | _=>none
theorem ok77(args:List Value)(H:Hp)(n:Nat)(r:Value × Hp × Nat)(e:ent77 cal args H n=some r):aX P cal A (KK+1) 77 args H n=some r:=by
 unfold ent77 at e
 split at e
 ·exact(h77_0 ..).trans e
 ·cases e
noncomputable def ent78(args:List Value)(H:Hp)(n:Nat):Res:=match args with
 | [v0,v1]=>C78_0 cal KK v0 v1 H n
 | _=>none
theorem ok78(args:List Value)(H:Hp)(n:Nat)(r:Value × Hp × Nat)(e:ent78 cal args H n=some r):aX P cal A (KK+1) 78 args H n=some r:=by
 unfold ent78 at e
 split at e
 ·exact(h78_0 ..).trans e
 ·cases e
noncomputable def ent79(args:List Value)(H:Hp)(n:Nat):Res:=match args with
 | [v0,v1]=>C79_0 cal KK v0 v1 H n
 | _=>none
theorem ok79(args:List Value)(H:Hp)(n:Nat)(r:Value × Hp × Nat)(e:ent79 cal args H n=some r):aX P cal A (KK+1) 79 args H n=some r:=by
 unfold ent79 at e
 split at e
 ·exact(h79_0 ..).trans e
 ·cases e
noncomputable def ent80(args:List Value)(H:Hp)(n:Nat):Res:=match args with
 | [v0]=>C80_0 cal KK v0 H n
 | _=>none
theorem ok80(args:List Value)(H:Hp)(n:Nat)(r:Value × Hp × Nat)(e:ent80 cal args H n=some r):aX P cal A (KK+1) 80 args H n=some r:=by
 unfold ent80 at e
 split at e
 ·exact(h80_0 ..).trans e
 ·cases e
noncomputable def ent82(args:List Value)(H:Hp)(n:Nat):Res:=match args with
 | [v0,v1]=>C82_0 cal KK v0 v1 H n
 | _=>none
theorem ok82(args:List Value)(H:Hp)(n:Nat)(r:Value × Hp × Nat)(e:ent82 cal args H n=some r):aX P cal A (KK+1) 82 args H n=some r:=by
 unfold ent82 at e
 split at e
 ·exact(h82_0 ..).trans e
 ·cases e
noncomputable def ent83(args:List Value)(H:Hp)(n:Nat):Res:=match args with
 | [v0]=>C83_0 cal KK v0 H n
 | _=>none
theorem ok83(args:List Value)(H:Hp)(n:Nat)(r:Value × Hp × Nat)(e:ent83 cal args H n=some r):aX P cal A (KK+1) 83 args H n=some r:=by
 unfold ent83 at e
 split at e
 ·exact(h83_0 ..).trans e
 ·cases e
noncomputable def ent84(args:List Value)(H:Hp)(n:Nat):Res:=match args with
 | [v0]=>C84_0 cal KK v0 H n
 | _=>none
theorem ok84(args:List Value)(H:Hp)(n:Nat)(r:Value × Hp × Nat)(e:ent84 cal args H n=some r):aX P cal A (KK+1) 84 args H n=some r:=by
 unfold ent84 at e
 split at e
 ·exact(h84_0 ..).trans e
 ·cases e
noncomputable def ent86(args:List Value)(H:Hp)(n:Nat):Res:=match args with
 | [v0,v1]=>C86_0 cal KK v0 v1 H n
 | _=>none
theorem ok86(args:List Value)(H:Hp)(n:Nat)(r:Value × Hp × Nat)(e:ent86 cal args H n=some r):aX P cal A (KK+1) 86 args H n=some r:=by
 unfold ent86 at e
 split at e
 ·exact(h86_0 ..).trans e
 ·cases e
noncomputable def ent90(args:List Value)(H:Hp)(n:Nat):Res:=match args with
 | [v0,v1]=>C90_0 cal KK v0 v1 H n
 | _=>none
theorem ok90(args:List Value)(H:Hp)(n:Nat)(r:Value × Hp × Nat)(e:ent90 cal args H n=some r):aX P cal A (KK+1) 90 args H n=some r:=by
 unfold ent90 at e
 split at e
 ·exact(h90_0 ..).trans e
 ·cases e
noncomputable def ent91(args:List Value)(H:Hp)(n:Nat):Res:=match args with
 | [v0,v1,v2,v3]=>C91_0 cal KK v0 v1 v2 v3 H n
 | _=>none
theorem ok91(args:List Value)(H:Hp)(n:Nat)(r:Value × Hp × Nat)(e:ent91 cal args H n=some r):aX P cal A (KK+1) 91 args H n=some r:=by
 unfold ent91 at e
 split at e
 ·exact(h91_0 ..).trans e
 ·cases e
noncomputable def ent92(args:List Value)(H:Hp)(n:Nat):Res:=match args with
 | [v0,v1]=>C92_0 cal KK v0 v1 H n
 | _=>none
theorem ok92(args:List Value)(H:Hp)(n:Nat)(r:Value × Hp × Nat)(e:ent92 cal args H n=some r):aX P cal A (KK+1) 92 args H n=some r:=by
 unfold ent92 at e
 split at e
 ·exact(h92_0 ..).trans e
 ·cases e
noncomputable def ent93(args:List Value)(H:Hp)(n:Nat):Res:=match args with
 | [v0,v1]=>C93_0 cal KK v0 v1 H n
 | _=>none
theorem ok93(args:List Value)(H:Hp)(n:Nat)(r:Value × Hp × Nat)(e:ent93 cal args H n=some r):aX P cal A (KK+1) 93 args H n=some r:=by
 unfold ent93 at e
 split at e
 ·exact(h93_0 ..).trans e
 ·cases e
noncomputable def ent94(args:List Value)(H:Hp)(n:Nat):Res:=match args with
 | [v0,v1]=>C94_0 cal KK v0 v1 H n
 | _=>none
theorem ok94(args:List Value)(H:Hp)(n:Nat)(r:Value × Hp × Nat)(e:ent94 cal args H n=some r):aX P cal A (KK+1) 94 args H n=some r:=by
 unfold ent94 at e
 split at e
 ·exact(h94_0 ..).trans e
 ·cases e
noncomputable def ent95(args:List Value)(H:Hp)(n:Nat):Res:=match args with
 | [v0,v1]=>C95_0 cal KK v0 v1 H n
 | _=>none
theorem ok95(args:List Value)(H:Hp)(n:Nat)(r:Value × Hp × Nat)(e:ent95 cal args H n=some r):aX P cal A (KK+1) 95 args H n=some r:=by
 unfold ent95 at e
 split at e
 ·exact(h95_0 ..).trans e
 ·cases e
noncomputable def ent96(args:List Value)(H:Hp)(n:Nat):Res:=match args with
 | [v0,v1]=>C96_0 cal KK v0 v1 H n
 | _=>none
theorem ok96(args:List Value)(H:Hp)(n:Nat)(r:Value × Hp × Nat)(e:ent96 cal args H n=some r):aX P cal A (KK+1) 96 args H n=some r:=by
 unfold ent96 at e
 split at e
 ·exact(h96_0 ..).trans e
 ·cases e
noncomputable def ent97(args:List Value)(H:Hp)(n:Nat):Res:=match args with
 | [v0,v1,v2,v3,v4,v5,v6]=>C97_0 cal KK v0 v1 v2 v3 v4 v5 v6 H n
 | _=>none
theorem ok97(args:List Value)(H:Hp)(n:Nat)(r:Value × Hp × Nat)(e:ent97 cal args H n=some r):aX P cal A (KK+1) 97 args H n=some r:=by
 unfold ent97 at e
 split at e
 ·exact(h97_0 ..).trans e
 ·cases e
noncomputable def ent98(args:List Value)(H:Hp)(n:Nat):Res:=match args with
 | [v0]=>C98_0 cal KK v0 H n
 | _=>none
theorem ok98(args:List Value)(H:Hp)(n:Nat)(r:Value × Hp × Nat)(e:ent98 cal args H n=some r):aX P cal A (KK+1) 98 args H n=some r:=by
 unfold ent98 at e
 split at e
 ·exact(h98_0 ..).trans e
 ·cases e
noncomputable def ent99(args:List Value)(H:Hp)(n:Nat):Res:=match args with
 | [v0]=>C99_0 cal KK v0 H n
 | _=>none
theorem ok99(args:List Value)(H:Hp)(n:Nat)(r:Value × Hp × Nat)(e:ent99 cal args H n=some r):aX P cal A (KK+1) 99 args H n=some r:=by
 unfold ent99 at e
 split at e
 ·exact(h99_0 ..).trans e
 ·cases e
noncomputable def ent100(args:List Value)(H:Hp)(n:Nat):Res:=match args with
 | [v0,v1]=>SJ cal KK v0 v1 H n
 | _=>none
theorem ok100(args:List Value)(H:Hp)(n:Nat)(r:Value × Hp × Nat)(e:ent100 cal args H n=some r):aX P cal A (KK+1) 100 args H n=some r:=by
 unfold ent100 at e
 split at e
 ·exact(h100_0 ..).trans e
 ·cases e
noncomputable def ent101(args:List Value)(H:Hp)(n:Nat):Res:=match args with
 | [v0]=>C101_0 cal KK v0 H n
 | _=>none
theorem ok101(args:List Value)(H:Hp)(n:Nat)(r:Value × Hp × Nat)(e:ent101 cal args H n=some r):aX P cal A (KK+1) 101 args H n=some r:=by
 unfold ent101 at e
 split at e
 ·exact(h101_0 ..).trans e
 ·cases e
noncomputable def ent102(args:List Value)(H:Hp)(n:Nat):Res:=match args with
 | [v0]=>SK cal KK v0 H n
 | _=>none
theorem ok102(args:List Value)(H:Hp)(n:Nat)(r:Value × Hp × Nat)(e:ent102 cal args H n=some r):aX P cal A (KK+1) 102 args H n=some r:=by
 unfold ent102 at e
 split at e
 ·exact(h102_0 ..).trans e
 ·cases e
noncomputable def ent103(args:List Value)(H:Hp)(n:Nat):Res:=match args with
 | [v0]=>Tq cal KK v0 H n
 | _=>none
theorem ok103(args:List Value)(H:Hp)(n:Nat)(r:Value × Hp × Nat)(e:ent103 cal args H n=some r):aX P cal A (KK+1) 103 args H n=some r:=by
 unfold ent103 at e
 split at e
 ·exact(h103_0 ..).trans e
 ·cases e
noncomputable def ent104(args:List Value)(H:Hp)(n:Nat):Res:=match args with
 | [v0,v1]=>Tv cal KK v0 v1 H n
 | _=>none
theorem ok104(args:List Value)(H:Hp)(n:Nat)(r:Value × Hp × Nat)(e:ent104 cal args H n=some r):aX P cal A (KK+1) 104 args H n=some r:=by
 unfold ent104 at e
 split at e
 ·exact(h104_0 ..).trans e
 ·cases e
noncomputable def ent106(args:List Value)(H:Hp)(n:Nat):Res:=match args with
 | [v0]=>Tw cal KK v0 H n
 | _=>none
theorem ok106(args:List Value)(H:Hp)(n:Nat)(r:Value × Hp × Nat)(e:ent106 cal args H n=some r):aX P cal A (KK+1) 106 args H n=some r:=by
 unfold ent106 at e
 split at e
 ·exact(h106_0 ..).trans e
 ·cases e
noncomputable def ent107(args:List Value)(H:Hp)(n:Nat):Res:=match args with
 | [v0]=>Tx cal KK v0 H n
 | _=>none
theorem ok107(args:List Value)(H:Hp)(n:Nat)(r:Value × Hp × Nat)(e:ent107 cal args H n=some r):aX P cal A (KK+1) 107 args H n=some r:=by
 unfold ent107 at e
 split at e
 ·exact(h107_0 ..).trans e
 ·cases e
noncomputable def ent108(args:List Value)(H:Hp)(n:Nat):Res:=match args with
 | [v0,v1]=>C108_0 cal KK v0 v1 H n
 | _=>none
theorem ok108(args:List Value)(H:Hp)(n:Nat)(r:Value × Hp × Nat)(e:ent108 cal args H n=some r):aX P cal A (KK+1) 108 args H n=some r:=by
 unfold ent108 at e
 split at e
 ·exact(h108_0 ..).trans e
 ·cases e
noncomputable def ent109(args:List Value)(H:Hp)(n:Nat):Res:=match args with
 | []=>C109_0 cal KK  H n
 | _=>none
theorem ok109(args:List Value)(H:Hp)(n:Nat)(r:Value × Hp × Nat)(e:ent109 cal args H n=some r):aX P cal A (KK+1) 109 args H n=some r:=by
 unfold ent109 at e
 split at e
 ·exact(h109_0 ..).trans e
 ·cases e
noncomputable def ent110(args:List Value)(H:Hp)(n:Nat):Res:=match args with
 | [v0,v1,v2]=>C110_0 cal KK v0 v1 v2 H n
 | _=>none
theorem ok110(args:List Value)(H:Hp)(n:Nat)(r:Value × Hp × Nat)(e:ent110 cal args H n=some r):aX P cal A (KK+1) 110 args H n=some r:=by
 unfold ent110 at e
 split at e
 ·exact(h110_0 ..).trans e
 ·cases e
noncomputable def ent111(args:List Value)(H:Hp)(n:Nat):Res:=match args with
 | [v0]=>Tz cal KK v0 H n
 | _=>none
theorem ok111(args:List Value)(H:Hp)(n:Nat)(r:Value × Hp × Nat)(e:ent111 cal args H n=some r):aX P cal A (KK+1) 111 args H n=some r:=by
 unfold ent111 at e
 split at e
 ·exact(h111_0 ..).trans e
 ·cases e
noncomputable def ent112(args:List Value)(H:Hp)(n:Nat):Res:=match args with
 | [v0]=>C112_0 cal KK v0 H n
 | _=>none
theorem ok112(args:List Value)(H:Hp)(n:Nat)(r:Value × Hp × Nat)(e:ent112 cal args H n=some r):aX P cal A (KK+1) 112 args H n=some r:=by
 unfold ent112 at e
 split at e
 ·exact(h112_0 ..).trans e
 ·cases e
noncomputable def ent113(args:List Value)(H:Hp)(n:Nat):Res:=match args with
 | [v0,v1]=>TJ cal KK v0 v1 H n
 | _=>none
theorem ok113(args:List Value)(H:Hp)(n:Nat)(r:Value × Hp × Nat)(e:ent113 cal args H n=some r):aX P cal A (KK+1) 113 args H n=some r:=by
 unfold ent113 at e
 split at e
 ·exact(h113_0 ..).trans e
 ·cases e
noncomputable def ent114(args:List Value)(H:Hp)(n:Nat):Res:=match args with
 | [v0]=>TQ cal KK v0 H n
 | _=>none
theorem ok114(args:List Value)(H:Hp)(n:Nat)(r:Value × Hp × Nat)(e:ent114 cal args H n=some r):aX P cal A (KK+1) 114 args H n=some r:=by
 unfold ent114 at e
 split at e
 ·exact(h114_0 ..).trans e
 ·cases e
noncomputable def ent115(args:List Value)(H:Hp)(n:Nat):Res:=match args with
 | [v0,v1]=>TW cal KK v0 v1 H n
 | _=>none
theorem ok115(args:List Value)(H:Hp)(n:Nat)(r:Value × Hp × Nat)(e:ent115 cal args H n=some r):aX P cal A (KK+1) 115 args H n=some r:=by
 unfold ent115 at e
 split at e
 ·exact(h115_0 ..).trans e
 ·cases e
noncomputable def ent116(args:List Value)(H:Hp)(n:Nat):Res:=match args with
 | [v0,v1]=>TZ cal KK v0 v1 H n
 | _=>none
theorem ok116(args:List Value)(H:Hp)(n:Nat)(r:Value × Hp × Nat)(e:ent116 cal args H n=some r):aX P cal A (KK+1) 116 args H n=some r:=by
 unfold ent116 at e
 split at e
 ·exact(h116_0 ..).trans e
 ·cases e
noncomputable def ent117(args:List Value)(H:Hp)(n:Nat):Res:=match args with
 | [v0,v1]=>Uq cal KK v0 v1 H n
 | _=>none
theorem ok117(args:List Value)(H:Hp)(n:Nat)(r:Value × Hp × Nat)(e:ent117 cal args H n=some r):aX P cal A (KK+1) 117 args H n=some r:=by
 unfold ent117 at e
 split at e
 ·exact(h117_0 ..).trans e
 ·cases e
noncomputable def ent118(args:List Value)(H:Hp)(n:Nat):Res:=match args with
 | [v0]=>Uv cal KK v0 H n
 | _=>none
theorem ok118(args:List Value)(H:Hp)(n:Nat)(r:Value × Hp × Nat)(e:ent118 cal args H n=some r):aX P cal A (KK+1) 118 args H n=some r:=by
 unfold ent118 at e
 split at e
 ·exact(h118_0 ..).trans e
 ·cases e
noncomputable def ent119(args:List Value)(H:Hp)(n:Nat):Res:=match args with
 | [v0,v1,v2]=>Uy cal KK v0 v1 v2 H n
 | _=>none
theorem ok119(args:List Value)(H:Hp)(n:Nat)(r:Value × Hp × Nat)(e:ent119 cal args H n=some r):aX P cal A (KK+1) 119 args H n=some r:=by
 unfold ent119 at e
 split at e
 ·exact(h119_0 ..).trans e
 ·cases e
noncomputable def ent120(args:List Value)(H:Hp)(n:Nat):Res:=match args with
 | [v0,v1]=>Uk cal KK v0 v1 H n
 | _=>none
theorem ok120(args:List Value)(H:Hp)(n:Nat)(r:Value × Hp × Nat)(e:ent120 cal args H n=some r):aX P cal A (KK+1) 120 args H n=some r:=by
 unfold ent120 at e
 split at e
 ·exact(h120_0 ..).trans e
 ·cases e
noncomputable def ent121(args:List Value)(H:Hp)(n:Nat):Res:=match args with
 | [v0,v1,v2,v3,v4]=>C121_0 cal KK v0 v1 v2 v3 v4 H n
 | _=>none
theorem ok121(args:List Value)(H:Hp)(n:Nat)(r:Value × Hp × Nat)(e:ent121 cal args H n=some r):aX P cal A (KK+1) 121 args H n=some r:=by
 unfold ent121 at e
 split at e
 ·exact(h121_0 ..).trans e
 ·cases e
noncomputable def ent122(args:List Value)(H:Hp)(n:Nat):Res:=match args with
 | [v0]=>C122_0 cal KK v0 H n
 | _=>none
theorem ok122(args:List Value)(H:Hp)(n:Nat)(r:Value × Hp × Nat)(e:ent122 cal args H n=some r):aX P cal A (KK+1) 122 args H n=some r:=by
 unfold ent122 at e
 split at e
 ·exact(h122_0 ..).trans e
 ·cases e
noncomputable def ent123(args:List Value)(H:Hp)(n:Nat):Res:=match args with
 | [v0,v1]=>C123_0 cal KK v0 v1 H n
 | _=>none
theorem ok123(args:List Value)(H:Hp)(n:Nat)(r:Value × Hp × Nat)(e:ent123 cal args H n=some r):aX P cal A (KK+1) 123 args H n=some r:=by
 unfold ent123 at e
 split at e
 ·exact(h123_0 ..).trans e
 ·cases e
noncomputable def ent124(args:List Value)(H:Hp)(n:Nat):Res:=match args with
 | [v0,v1]=>C124_0 cal KK v0 v1 H n
 | _=>none
theorem ok124(args:List Value)(H:Hp)(n:Nat)(r:Value × Hp × Nat)(e:ent124 cal args H n=some r):aX P cal A (KK+1) 124 args H n=some r:=by
 unfold ent124 at e
 split at e
 ·exact(h124_0 ..).trans e
 ·cases e
noncomputable def ent125(args:List Value)(H:Hp)(n:Nat):Res:=match args with
 | [v0]=>C125_0 cal KK v0 H n
 | _=>none
theorem ok125(args:List Value)(H:Hp)(n:Nat)(r:Value × Hp × Nat)(e:ent125 cal args H n=some r):aX P cal A (KK+1) 125 args H n=some r:=by
 unfold ent125 at e
 split at e
 ·exact(h125_0 ..).trans e
 ·cases e
noncomputable def ent126(args:List Value)(H:Hp)(n:Nat):Res:=match args with
 | [v0]=>C126_0 cal KK v0 H n
 | _=>none
theorem ok126(args:List Value)(H:Hp)(n:Nat)(r:Value × Hp × Nat)(e:ent126 cal args H n=some r):aX P cal A (KK+1) 126 args H n=some r:=by
 unfold ent126 at e
 split at e
 ·exact(h126_0 ..).trans e
 ·cases e
noncomputable def ent127(args:List Value)(H:Hp)(n:Nat):Res:=match args with
 | [v0]=>DW cal KK v0 H n
 | _=>none
theorem ok127(args:List Value)(H:Hp)(n:Nat)(r:Value × Hp × Nat)(e:ent127 cal args H n=some r):aX P cal A (KK+1) 127 args H n=some r:=by
 unfold ent127 at e
 split at e
 ·exact(h127_0 ..).trans e
 ·cases e
noncomputable def ent128(args:List Value)(H:Hp)(n:Nat):Res:=match args with
 | [v0,v1]=>UJ cal KK v0 v1 H n
 | _=>none
theorem ok128(args:List Value)(H:Hp)(n:Nat)(r:Value × Hp × Nat)(e:ent128 cal args H n=some r):aX P cal A (KK+1) 128 args H n=some r:=by
 unfold ent128 at e
 split at e
 ·exact(h128_0 ..).trans e
 ·cases e
noncomputable def ent129(args:List Value)(H:Hp)(n:Nat):Res:=match args with
 | [v0]=>UQ cal KK v0 H n
 | _=>none
theorem ok129(args:List Value)(H:Hp)(n:Nat)(r:Value × Hp × Nat)(e:ent129 cal args H n=some r):aX P cal A (KK+1) 129 args H n=some r:=by
 unfold ent129 at e
 split at e
 ·exact(h129_0 ..).trans e
 ·cases e
noncomputable def ent130(args:List Value)(H:Hp)(n:Nat):Res:=match args with
 | [v0,v1,v2,v3]=>C130_0 cal KK v0 v1 v2 v3 H n
 | _=>none
theorem ok130(args:List Value)(H:Hp)(n:Nat)(r:Value × Hp × Nat)(e:ent130 cal args H n=some r):aX P cal A (KK+1) 130 args H n=some r:=by
 unfold ent130 at e
 split at e
 ·exact(h130_0 ..).trans e
 ·cases e
noncomputable def ent134(args:List Value)(H:Hp)(n:Nat):Res:=match args with
 | [v0,v1,v2,v3]=>C134_0 cal KK v0 v1 v2 v3 H n
 | _=>none
theorem ok134(args:List Value)(H:Hp)(n:Nat)(r:Value × Hp × Nat)(e:ent134 cal args H n=some r):aX P cal A (KK+1) 134 args H n=some r:=by
 unfold ent134 at e
 split at e
 ·exact(h134_0 ..).trans e
 ·cases e
noncomputable def ent138(args:List Value)(H:Hp)(n:Nat):Res:=match args with
 | [v0]=>C138_0 cal KK v0 H n
 | _=>none
theorem ok138(args:List Value)(H:Hp)(n:Nat)(r:Value × Hp × Nat)(e:ent138 cal args H n=some r):aX P cal A (KK+1) 138 args H n=some r:=by
 unfold ent138 at e
 split at e
 ·exact(h138_0 ..).trans e
 ·cases e
noncomputable def ent139(args:List Value)(H:Hp)(n:Nat):Res:=match args with
 | [v0]=>C139_0 cal KK v0 H n
 | _=>none
theorem ok139(args:List Value)(H:Hp)(n:Nat)(r:Value × Hp × Nat)(e:ent139 cal args H n=some r):aX P cal A (KK+1) 139 args H n=some r:=by
 unfold ent139 at e
 split at e
 ·exact(h139_0 ..).trans e
 ·cases e
noncomputable def ent140(args:List Value)(H:Hp)(n:Nat):Res:=match args with
 | [v0,v1]=>C140_0 cal KK v0 v1 H n
 | _=>none
theorem ok140(args:List Value)(H:Hp)(n:Nat)(r:Value × Hp × Nat)(e:ent140 cal args H n=some r):aX P cal A (KK+1) 140 args H n=some r:=by
 unfold ent140 at e
 split at e
 ·exact(h140_0 ..).trans e
 ·cases e
noncomputable def ent142(args:List Value)(H:Hp)(n:Nat):Res:=match args with
 | [v0]=>C142_0 cal KK v0 H n
 | _=>none
theorem ok142(args:List Value)(H:Hp)(n:Nat)(r:Value × Hp × Nat)(e:ent142 cal args H n=some r):aX P cal A (KK+1) 142 args H n=some r:=by
 unfold ent142 at e
 split at e
 ·exact(h142_0 ..).trans e
 ·cases e
noncomputable def ent143(args:List Value)(H:Hp)(n:Nat):Res:=match args with
 | [v0]=>C143_0 cal KK v0 H n
 | _=>none
theorem ok143(args:List Value)(H:Hp)(n:Nat)(r:Value × Hp × Nat)(e:ent143 cal args H n=some r):aX P cal A (KK+1) 143 args H n=some r:=by
 unfold ent143 at e
 split at e
 ·exact(h143_0 ..).trans e
 ·cases e
noncomputable def ent144(args:List Value)(H:Hp)(n:Nat):Res:=match args with
 | [v0,v1,v2,v3]=>C144_0 cal KK v0 v1 v2 v3 H n
 | _=>none
theorem ok144(args:List Value)(H:Hp)(n:Nat)(r:Value × Hp × Nat)(e:ent144 cal args H n=some r):aX P cal A (KK+1) 144 args H n=some r:=by
 unfold ent144 at e
 split at e
 ·exact(h144_0 ..).trans e
 ·cases e
noncomputable def ent145(args:List Value)(H:Hp)(n:Nat):Res:=match args with
 | [v0,v1,v2,v3,v4,v5]=>C145_0 cal KK v0 v1 v2 v3 v4 v5 H n
 | _=>none
theorem ok145(args:List Value)(H:Hp)(n:Nat)(r:Value × Hp × Nat)(e:ent145 cal args H n=some r):aX P cal A (KK+1) 145 args H n=some r:=by
 unfold ent145 at e
 split at e
 ·exact(h145_0 ..).trans e
 ·cases e
noncomputable def ent146(args:List Value)(H:Hp)(n:Nat):Res:=match args with
 | [v0]=>C146_0 cal KK v0 H n
 | _=>none
theorem ok146(args:List Value)(H:Hp)(n:Nat)(r:Value × Hp × Nat)(e:ent146 cal args H n=some r):aX P cal A (KK+1) 146 args H n=some r:=by
 unfold ent146 at e
 split at e
 ·exact(h146_0 ..).trans e
 ·cases e
noncomputable def ent147(args:List Value)(H:Hp)(n:Nat):Res:=match args with
 | [v0,v1,v2,v3,v4]=>C147_0 cal KK v0 v1 v2 v3 v4 H n
 | _=>none
theorem ok147(args:List Value)(H:Hp)(n:Nat)(r:Value × Hp × Nat)(e:ent147 cal args H n=some r):aX P cal A (KK+1) 147 args H n=some r:=by
 unfold ent147 at e
 split at e
 ·exact(h147_0 ..).trans e
 ·cases e
noncomputable def tab:Tr (Cal→List Value→Hp→Nat→Res):=Tr.set (Tr.set (Tr.set (Tr.set (Tr.set (Tr.set (Tr.set (Tr.set (Tr.set (Tr.set (Tr.set (Tr.set (Tr.set (Tr.set (Tr.set (Tr.set (Tr.set (Tr.set (Tr.set (Tr.set (Tr.set (Tr.set (Tr.set (Tr.set (Tr.set (Tr.set (Tr.set (Tr.set (Tr.set (Tr.set (Tr.set (Tr.set (Tr.set (Tr.set (Tr.set (Tr.set (Tr.set (Tr.set (Tr.set (Tr.set (Tr.set (Tr.set (Tr.set (Tr.set (Tr.set (Tr.set (Tr.set (Tr.set (Tr.set (Tr.set (Tr.set (Tr.set (Tr.set (Tr.set (Tr.set (Tr.set (Tr.set (Tr.set (Tr.set (Tr.set (Tr.set (Tr.set (Tr.set (Tr.set (Tr.set (Tr.set (Tr.set (Tr.set (Tr.set (Tr.set (Tr.set (Tr.set (Tr.set (Tr.set (Tr.set (Tr.set (Tr.set (Tr.set (.nil) 16 (some ent16)) 19 (some ent19)) 23 (some ent23)) 25 (some ent25)) 32 (some ent32)) 34 (some ent34)) 42 (some ent42)) 48 (some ent48)) 53 (some ent53)) 54 (some ent54)) 55 (some ent55)) 57 (some ent57)) 58 (some ent58)) 59 (some ent59)) 63 (some ent63)) 64 (some ent64)) 66 (some ent66)) 67 (some ent67)) 71 (some ent71)) 76 (some ent76)) 77 (some ent77)) 78 (some ent78)) 79 (some ent79)) 80 (some ent80)) 82 (some ent82)) 83 (some ent83)) 84 (some ent84)) 86 (some ent86)) 90 (some ent90)) 91 (some ent91)) 92 (some ent92)) 93 (some ent93)) 94 (some ent94)) 95 (some ent95)) 96 (some ent96)) 97 (some ent97)) 98 (some ent98)) 99 (some ent99)) 100 (some ent100)) 101 (some ent101)) 102 (some ent102)) 103 (some ent103)) 104 (some ent104)) 106 (some ent106)) 107 (some ent107)) 108 (some ent108)) 109 (some ent109)) 110 (some ent110)) 111 (some ent111)) 112 (some ent112)) 113 (some ent113)) 114 (some ent114)) 115 (some ent115)) 116 (some ent116)) 117 (some ent117)) 118 (some ent118)) 119 (some ent119)) 120 (some ent120)) 121 (some ent121)) 122 (some ent122)) 123 (some ent123)) 124 (some ent124)) 125 (some ent125)) 126 (some ent126)) 127 (some ent127)) 128 (some ent128)) 129 (some ent129)) 130 (some ent130)) 134 (some ent134)) 138 (some ent138)) 139 (some ent139)) 140 (some ent140)) 142 (some ent142)) 143 (some ent143)) 144 (some ent144)) 145 (some ent145)) 146 (some ent146)) 147 (some ent147)
theorem tab_ok:EX P A (KK+1) tab.get:=bV (bV (bV (bV (bV (bV (bV (bV (bV (bV (bV (bV (bV (bV (bV (bV (bV (bV (bV (bV (bV (bV (bV (bV (bV (bV (bV (bV (bV (bV (bV (bV (bV (bV (bV (bV (bV (bV (bV (bV (bV (bV (bV (bV (bV (bV (bV (bV (bV (bV (bV (bV (bV (bV (bV (bV (bV (bV (bV (bV (bV (bV (bV (bV (bV (bV (bV (bV (bV (bV (bV (bV (bV (bV (bV (bV (bV (bV (tbl_nil _) ok16) ok19) ok23) ok25) ok32) ok34) ok42) ok48) ok53) ok54) ok55) ok57) ok58) ok59) ok63) ok64) ok66) ok67) ok71) ok76) ok77) ok78) ok79) ok80) ok82) ok83) ok84) ok86) ok90) ok91) ok92) ok93) ok94) ok95) ok96) ok97) ok98) ok99) ok100) ok101) ok102) ok103) ok104) ok106) ok107) ok108) ok109) ok110) ok111) ok112) ok113) ok114) ok115) ok116) ok117) ok118) ok119) ok120) ok121) ok122) ok123) ok124) ok125) ok126) ok127) ok128) ok129) ok130) ok134) ok138) ok139) ok140) ok142) ok143) ok144) ok145) ok146) ok147
end Go.Proofs.YtnnkcjolgbpklaaGreat.G
end
end
