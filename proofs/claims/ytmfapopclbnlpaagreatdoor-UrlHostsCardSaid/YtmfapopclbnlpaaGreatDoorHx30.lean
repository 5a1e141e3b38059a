import Derived.Test.YtmfapopclbnlpaaGreatDoorProg
import Derived.ProofKit
import Derived.Test.YtmfapopclbnlpaaGreatDoorHx5
import Derived.Test.YtmfapopclbnlpaaGreatDoorHx17
import Derived.Test.YtmfapopclbnlpaaGreatDoorHx25
import Derived.Test.YtmfapopclbnlpaaGreatDoorHx28
import Derived.Test.YtmfapopclbnlpaaGreatDoorHx29
set_option linter.unusedVariables false
set_option linter.unusedSimpArgs false
set_option maxRecDepth 100000
set_option maxHeartbeats 4000000
namespace Go.Proofs.YtmfapopclbnlpaaGreatDoor
open Go Go.Proofs Go.RowKit Go.Vc
section
def B8:cM:=bS [(75,lk),(76,p6),(91,mU),(92,jw),(77,jl),(78,dP)]
def B9(sc us pw:Bs)(hk:Int)(hs:Bs)(hn:Int)(hp:List Int)(port:Int)(pn:Bool)(pl:List Bs)(hq:Bool)(q:Bs)(hf:Bool)(fg:Bs)(bare sp:Bool)(I:Bs)(Rm Rv Ru:Bs)(Rp:Int)(Rq:Bs)(Rr:Int)(Rs:List Int)(Rj:Int)(Rk Ro:Bool)(Rn:List Bs)(Rt:Bool)(bq:Bs)(Rw:Bool)(Rx:Bs):aP:=fun i=>none
theorem Ca:df Tryz.prog az B8:=ah tp (ah y5 (ah uO (ah pS (ah lx (ah dq ax)))))
theorem I2(sc us pw:Bs)(hk:Int)(hs:Bs)(hn:Int)(hp:List Int)(port:Int)(pn:Bool)(pl:List Bs)(hq:Bool)(q:Bs)(hf:Bool)(fg:Bs)(bare sp:Bool)(I:Bs)(Rm Rv Ru:Bs)(Rp:Int)(Rq:Bs)(Rr:Int)(Rs:List Int)(Rj:Int)(Rk Ro:Bool)(Rn:List Bs)(Rt:Bool)(bq:Bs)(Rw:Bool)(Rx:Bs)(k:PV->List PV->Prop):b9 Tryz.prog B8 az (B9 sc us pw hk hs hn hp port pn pl hq q hf fg bare sp I Rm Rv Ru Rp Rq Rr Rs Rj Rk Ro Rn Rt bq Rw Rx) 1000 Tryz.f47 [.ptr 0 0] [aE 1 (.ptr 1 0) sc us pw hk hs hn hp port false pn pl hq q hf fg bare sp I,bW 0 Rm Rv Ru Rp Rq Rr Rs Rj Rk Ro Rn Rt bq Rw Rx] k=(
 (List.length I<=300000/\
 (ak I I 0).2.2=false/\
 Rk=false)/\
 ((!decide ((0:Int)=0))=true->
 k (PV.int .i64 0) [ct (PV.ptr 1 0) 1 Rm us pw hk hs hn hp port false pn pl hq q hf fg true (bK Rm) I,bW 0 Rm Rv Ru Rp Rq Rr Rs Rj Rk Ro Rn Rt bq Rw Rx])/\
 ((!decide ((0:Int)=0))=false->
 (false=true->
 (List.length I).le 300000/\
 (List.length (bX I)).le 300000/\
 k (PV.int .i64 0) [ct (PV.ptr 1 0) 1 Rm us pw hk hs hn hp port false pn pl (fb I hq) (fc (bK Rm) I q) (fe (bX I) hf) (ff (bX I) fg) true (bK Rm) (fh (bX I)),bW 0 Rm Rv Ru Rp Rq Rr Rs Rj Rk Ro Rn Rt bq Rw Rx])/\
 (false=false->
 (decide (Rm=(bL #[102,105,108,101]))=true->
 (List.length I<=300000/\
 Rn.length<=100000/\
 aB (bK Rm) I 0=false/\
 ck I=false/\
 bN I=false/\
 Rm=Rm)/\
 ((!decide ((0:Int)=0))=true->
 k (PV.int .i64 0) [ct (PV.ptr 1 0) 1 Rm us pw (((RS.mk Rm us pw hk hs hn hp port false pn pl hq q hf fg true (bK Rm) I).cw (RS.mk Rm Rv Ru Rp Rq Rr Rs Rj Rk Ro Rn Rt bq Rw Rx false false [])).hk) (((RS.mk Rm us pw hk hs hn hp port false pn pl hq q hf fg true (bK Rm) I).cw (RS.mk Rm Rv Ru Rp Rq Rr Rs Rj Rk Ro Rn Rt bq Rw Rx false false [])).hs) (((RS.mk Rm us pw hk hs hn hp port false pn pl hq q hf fg true (bK Rm) I).cw (RS.mk Rm Rv Ru Rp Rq Rr Rs Rj Rk Ro Rn Rt bq Rw Rx false false [])).hn) (((RS.mk Rm us pw hk hs hn hp port false pn pl hq q hf fg true (bK Rm) I).cw (RS.mk Rm Rv Ru Rp Rq Rr Rs Rj Rk Ro Rn Rt bq Rw Rx false false [])).hp) port false (((RS.mk Rm us pw hk hs hn hp port false pn pl hq q hf fg true (bK Rm) I).cw (RS.mk Rm Rv Ru Rp Rq Rr Rs Rj Rk Ro Rn Rt bq Rw Rx false false [])).pn) (((RS.mk Rm us pw hk hs hn hp port false pn pl hq q hf fg true (bK Rm) I).cw (RS.mk Rm Rv Ru Rp Rq Rr Rs Rj Rk Ro Rn Rt bq Rw Rx false false [])).pl) hq q hf fg true (bK Rm) (((RS.mk Rm us pw hk hs hn hp port false pn pl hq q hf fg true (bK Rm) I).cw (RS.mk Rm Rv Ru Rp Rq Rr Rs Rj Rk Ro Rn Rt bq Rw Rx false false [])).I),bW 0 Rm Rv Ru Rp Rq Rr Rs Rj Rk Ro Rn Rt bq Rw Rx])/\
 ((!decide ((0:Int)=0))=false->
 (List.length ((RS.mk Rm us pw hk hs hn hp port false pn pl hq q hf fg true (bK Rm) I).cw (RS.mk Rm Rv Ru Rp Rq Rr Rs Rj Rk Ro Rn Rt bq Rw Rx false false [])).I).le 300000/\
 (List.length (bX ((RS.mk Rm us pw hk hs hn hp port false pn pl hq q hf fg true (bK Rm) I).cw (RS.mk Rm Rv Ru Rp Rq Rr Rs Rj Rk Ro Rn Rt bq Rw Rx false false [])).I)).le 300000/\
 k (PV.int .i64 0) [ct (PV.ptr 1 0) 1 Rm us pw (((RS.mk Rm us pw hk hs hn hp port false pn pl hq q hf fg true (bK Rm) I).cw (RS.mk Rm Rv Ru Rp Rq Rr Rs Rj Rk Ro Rn Rt bq Rw Rx false false [])).hk) (((RS.mk Rm us pw hk hs hn hp port false pn pl hq q hf fg true (bK Rm) I).cw (RS.mk Rm Rv Ru Rp Rq Rr Rs Rj Rk Ro Rn Rt bq Rw Rx false false [])).hs) (((RS.mk Rm us pw hk hs hn hp port false pn pl hq q hf fg true (bK Rm) I).cw (RS.mk Rm Rv Ru Rp Rq Rr Rs Rj Rk Ro Rn Rt bq Rw Rx false false [])).hn) (((RS.mk Rm us pw hk hs hn hp port false pn pl hq q hf fg true (bK Rm) I).cw (RS.mk Rm Rv Ru Rp Rq Rr Rs Rj Rk Ro Rn Rt bq Rw Rx false false [])).hp) port false (((RS.mk Rm us pw hk hs hn hp port false pn pl hq q hf fg true (bK Rm) I).cw (RS.mk Rm Rv Ru Rp Rq Rr Rs Rj Rk Ro Rn Rt bq Rw Rx false false [])).pn) (((RS.mk Rm us pw hk hs hn hp port false pn pl hq q hf fg true (bK Rm) I).cw (RS.mk Rm Rv Ru Rp Rq Rr Rs Rj Rk Ro Rn Rt bq Rw Rx false false [])).pl) (fb ((RS.mk Rm us pw hk hs hn hp port false pn pl hq q hf fg true (bK Rm) I).cw (RS.mk Rm Rv Ru Rp Rq Rr Rs Rj Rk Ro Rn Rt bq Rw Rx false false [])).I hq) (fc (bK Rm) ((RS.mk Rm us pw hk hs hn hp port false pn pl hq q hf fg true (bK Rm) I).cw (RS.mk Rm Rv Ru Rp Rq Rr Rs Rj Rk Ro Rn Rt bq Rw Rx false false [])).I q) (fe (bX ((RS.mk Rm us pw hk hs hn hp port false pn pl hq q hf fg true (bK Rm) I).cw (RS.mk Rm Rv Ru Rp Rq Rr Rs Rj Rk Ro Rn Rt bq Rw Rx false false [])).I) hf) (ff (bX ((RS.mk Rm us pw hk hs hn hp port false pn pl hq q hf fg true (bK Rm) I).cw (RS.mk Rm Rv Ru Rp Rq Rr Rs Rj Rk Ro Rn Rt bq Rw Rx false false [])).I) fg) true (bK Rm) (fh (bX ((RS.mk Rm us pw hk hs hn hp port false pn pl hq q hf fg true (bK Rm) I).cw (RS.mk Rm Rv Ru Rp Rq Rr Rs Rj Rk Ro Rn Rt bq Rw Rx false false [])).I)),bW 0 Rm Rv Ru Rp Rq Rr Rs Rj Rk Ro Rn Rt bq Rw Rx]))/\
 (decide (Rm=(bL #[102,105,108,101]))=false->
 (true=false->
 (bK Rm=true->
 Rm=Rm/\
 (false=false->
 true=true->
 True)/\
 ((!preB I (bL #[47,47]))=true->
 False)/\
 ((!preB I (bL #[47,47]))=false->
 (bK Rm=true->
 False)/\
 (bK Rm=false->
 False)))/\
 (bK Rm=!true->
 (false=false->
 false=true->
 True)/\
 (false=true->
 False)/\
 (false=false->
 (bK Rm=true->
 False)/\
 (bK Rm=false->
 False))))/\
 (true=!false->
 ((!false)=false->
 false=true->
 True)/\
 (true=true->
 False)/\
 (true=false->
 (bK Rm=true->
 False)/\
 (bK Rm=false->
 False))))))):=by kernel_rfl
attribute [local irreducible] Go.Vc.cD Go.Vc.b9
theorem Cb(sc us pw:Bs)(hk:Int)(hs:Bs)(hn:Int)(hp:List Int)(port:Int)(pn:Bool)(pl:List Bs)(hq:Bool)(q:Bs)(hf:Bool)(fg:Bs)(bare sp:Bool)(I:Bs)(Rm Rv Ru:Bs)(Rp:Int)(Rq:Bs)(Rr:Int)(Rs:List Int)(Rj:Int)(Rk Ro:Bool)(Rn:List Bs)(Rt:Bool)(bq:Bs)(Rw:Bool)(Rx:Bs):bE Tryz.prog az 47 [.ptr 0 0] [aE 1 (.ptr 1 0) sc us pw hk hs hn hp port false pn pl hq q hf fg bare sp I,bW 0 Rm Rv Ru Rp Rq Rr Rs Rj Rk Ro Rn Rt bq Rw Rx] (I.length<=300000/\Rn.length<=100000/\(ak I I 0).2.2=false/\Rk=false/\Rm=fL/\aB (bK Rm) I 0=false/\ck I=false/\bN I=false) (.int .i64 0) [aE 0 (.ptr 1 0) (((RS.mk sc us pw hk hs hn hp port false pn pl hq q hf fg bare sp I).au (RS.mk Rm Rv Ru Rp Rq Rr Rs Rj Rk Ro Rn Rt bq Rw Rx false false [])).sc) (((RS.mk sc us pw hk hs hn hp port false pn pl hq q hf fg bare sp I).au (RS.mk Rm Rv Ru Rp Rq Rr Rs Rj Rk Ro Rn Rt bq Rw Rx false false [])).us) (((RS.mk sc us pw hk hs hn hp port false pn pl hq q hf fg bare sp I).au (RS.mk Rm Rv Ru Rp Rq Rr Rs Rj Rk Ro Rn Rt bq Rw Rx false false [])).pw) (((RS.mk sc us pw hk hs hn hp port false pn pl hq q hf fg bare sp I).au (RS.mk Rm Rv Ru Rp Rq Rr Rs Rj Rk Ro Rn Rt bq Rw Rx false false [])).hk) (((RS.mk sc us pw hk hs hn hp port false pn pl hq q hf fg bare sp I).au (RS.mk Rm Rv Ru Rp Rq Rr Rs Rj Rk Ro Rn Rt bq Rw Rx false false [])).hs) (((RS.mk sc us pw hk hs hn hp port false pn pl hq q hf fg bare sp I).au (RS.mk Rm Rv Ru Rp Rq Rr Rs Rj Rk Ro Rn Rt bq Rw Rx false false [])).hn) (((RS.mk sc us pw hk hs hn hp port false pn pl hq q hf fg bare sp I).au (RS.mk Rm Rv Ru Rp Rq Rr Rs Rj Rk Ro Rn Rt bq Rw Rx false false [])).hp) (((RS.mk sc us pw hk hs hn hp port false pn pl hq q hf fg bare sp I).au (RS.mk Rm Rv Ru Rp Rq Rr Rs Rj Rk Ro Rn Rt bq Rw Rx false false [])).port) (((RS.mk sc us pw hk hs hn hp port false pn pl hq q hf fg bare sp I).au (RS.mk Rm Rv Ru Rp Rq Rr Rs Rj Rk Ro Rn Rt bq Rw Rx false false [])).Rl) (((RS.mk sc us pw hk hs hn hp port false pn pl hq q hf fg bare sp I).au (RS.mk Rm Rv Ru Rp Rq Rr Rs Rj Rk Ro Rn Rt bq Rw Rx false false [])).pn) (((RS.mk sc us pw hk hs hn hp port false pn pl hq q hf fg bare sp I).au (RS.mk Rm Rv Ru Rp Rq Rr Rs Rj Rk Ro Rn Rt bq Rw Rx false false [])).pl) (((RS.mk sc us pw hk hs hn hp port false pn pl hq q hf fg bare sp I).au (RS.mk Rm Rv Ru Rp Rq Rr Rs Rj Rk Ro Rn Rt bq Rw Rx false false [])).hq) (((RS.mk sc us pw hk hs hn hp port false pn pl hq q hf fg bare sp I).au (RS.mk Rm Rv Ru Rp Rq Rr Rs Rj Rk Ro Rn Rt bq Rw Rx false false [])).q) (((RS.mk sc us pw hk hs hn hp port false pn pl hq q hf fg bare sp I).au (RS.mk Rm Rv Ru Rp Rq Rr Rs Rj Rk Ro Rn Rt bq Rw Rx false false [])).hf) (((RS.mk sc us pw hk hs hn hp port false pn pl hq q hf fg bare sp I).au (RS.mk Rm Rv Ru Rp Rq Rr Rs Rj Rk Ro Rn Rt bq Rw Rx false false [])).fg) (((RS.mk sc us pw hk hs hn hp port false pn pl hq q hf fg bare sp I).au (RS.mk Rm Rv Ru Rp Rq Rr Rs Rj Rk Ro Rn Rt bq Rw Rx false false [])).bare) (((RS.mk sc us pw hk hs hn hp port false pn pl hq q hf fg bare sp I).au (RS.mk Rm Rv Ru Rp Rq Rr Rs Rj Rk Ro Rn Rt bq Rw Rx false false [])).sp) (((RS.mk sc us pw hk hs hn hp port false pn pl hq q hf fg bare sp I).au (RS.mk Rm Rv Ru Rp Rq Rr Rs Rj Rk Ro Rn Rt bq Rw Rx false false [])).I),bW 0 Rm Rv Ru Rp Rq Rr Rs Rj Rk Ro Rn Rt bq Rw Rx]:=xA (by kernel_rfl) Ca (H:=B9 sc us pw hk hs hn hp port pn pl hq q hf fg bare sp I Rm Rv Ru Rp Rq Rr Rs Rj Rk Ro Rn Rt bq Rw Rx) (fuel:=1000) Tryz.func47 (by kernel_rfl) (Nat.le_of_ble_eq_true rfl) fun hpre=>(I2 sc us pw hk hs hn hp port pn pl hq q hf fg bare sp I Rm Rv Ru Rp Rq Rr Rs Rj Rk Ro Rn Rt bq Rw Rx _).mpr (by
 obtain ⟨h1,h2,h3,h4,h5,h6,h7,h8⟩:=hpre;have hb:decide (Rm=(bL #[102,105,108,101]))=true:=decide_eq_true h5;have hr:((RS.mk Rm us pw hk hs hn hp port false pn pl hq q hf fg true (bK Rm) I).cw (RS.mk Rm Rv Ru Rp Rq Rr Rs Rj Rk Ro Rn Rt bq Rw Rx false false [])).I.length<=300000:=by
  show(aa I _).length<=_;unfold aa;rw [List.length_drop];omega
 have e:(RS.mk sc us pw hk hs hn hp port false pn pl hq q hf fg bare sp I).au (RS.mk Rm Rv Ru Rp Rq Rr Rs Rj Rk Ro Rn Rt bq Rw Rx false false [])=_:=jo _;rw [e];exact ⟨⟨h1,h3,h4⟩,(fun h=>absurd h (by decide)),fun _=>⟨(fun h=>nomatch h),fun _=>⟨fun _=>⟨⟨h1,h2,h6,h7,h8,rfl⟩,(fun h=>absurd h (by decide)),fun _=>⟨hr,Nat.le_trans (jW _) hr,rfl,rfl⟩⟩,fun h=>absurd (h.symm.trans hb) nofun⟩⟩⟩)
end
section
attribute [local instance] PW
theorem y9(sc us pw:Bs)(hk:Int)(hs:Bs)(hn:Int)(hp:List Int)(port:Int)(hq:Bool)(q:Bs)(hf:Bool)(fg:Bs)(bare sp:Bool)(I:Bs)(Rm Rv Ru:Bs)(Rp:Int)(Rq:Bs)(Rr:Int)(Rs:List Int)(Rj:Int)(Rk Ro:Bool)(Rn:List Bs)(Rt:Bool)(bq:Bs)(Rw:Bool)(Rx:Bs):bE Tryz.prog az 47 [.ptr 0 0] [aE 0 (.ptr 1 0) sc us pw hk hs hn hp port false true [] hq q hf fg bare sp I,bW 0 Rm Rv Ru Rp Rq Rr Rs Rj Rk Ro Rn Rt bq Rw Rx] (I.length<=300000/\Rn.length<=100000/\(ak I I 0).2.2=false/\Rk=false/\Rm=fL/\aB (bK Rm) I 0=false/\ck I=false/\bN I=false) (.int .i64 0) [aE 0 (.ptr 1 0) (((RS.mk sc us pw hk hs hn hp port false true ([]:List Bs) hq q hf fg bare sp I).au (RS.mk Rm Rv Ru Rp Rq Rr Rs Rj Rk Ro Rn Rt bq Rw Rx false false [])).sc) (((RS.mk sc us pw hk hs hn hp port false true ([]:List Bs) hq q hf fg bare sp I).au (RS.mk Rm Rv Ru Rp Rq Rr Rs Rj Rk Ro Rn Rt bq Rw Rx false false [])).us) (((RS.mk sc us pw hk hs hn hp port false true ([]:List Bs) hq q hf fg bare sp I).au (RS.mk Rm Rv Ru Rp Rq Rr Rs Rj Rk Ro Rn Rt bq Rw Rx false false [])).pw) (((RS.mk sc us pw hk hs hn hp port false true ([]:List Bs) hq q hf fg bare sp I).au (RS.mk Rm Rv Ru Rp Rq Rr Rs Rj Rk Ro Rn Rt bq Rw Rx false false [])).hk) (((RS.mk sc us pw hk hs hn hp port false true ([]:List Bs) hq q hf fg bare sp I).au (RS.mk Rm Rv Ru Rp Rq Rr Rs Rj Rk Ro Rn Rt bq Rw Rx false false [])).hs) (((RS.mk sc us pw hk hs hn hp port false true ([]:List Bs) hq q hf fg bare sp I).au (RS.mk Rm Rv Ru Rp Rq Rr Rs Rj Rk Ro Rn Rt bq Rw Rx false false [])).hn) (((RS.mk sc us pw hk hs hn hp port false true ([]:List Bs) hq q hf fg bare sp I).au (RS.mk Rm Rv Ru Rp Rq Rr Rs Rj Rk Ro Rn Rt bq Rw Rx false false [])).hp) (((RS.mk sc us pw hk hs hn hp port false true ([]:List Bs) hq q hf fg bare sp I).au (RS.mk Rm Rv Ru Rp Rq Rr Rs Rj Rk Ro Rn Rt bq Rw Rx false false [])).port) (((RS.mk sc us pw hk hs hn hp port false true ([]:List Bs) hq q hf fg bare sp I).au (RS.mk Rm Rv Ru Rp Rq Rr Rs Rj Rk Ro Rn Rt bq Rw Rx false false [])).Rl) (((RS.mk sc us pw hk hs hn hp port false true ([]:List Bs) hq q hf fg bare sp I).au (RS.mk Rm Rv Ru Rp Rq Rr Rs Rj Rk Ro Rn Rt bq Rw Rx false false [])).pn) (((RS.mk sc us pw hk hs hn hp port false true ([]:List Bs) hq q hf fg bare sp I).au (RS.mk Rm Rv Ru Rp Rq Rr Rs Rj Rk Ro Rn Rt bq Rw Rx false false [])).pl) (((RS.mk sc us pw hk hs hn hp port false true ([]:List Bs) hq q hf fg bare sp I).au (RS.mk Rm Rv Ru Rp Rq Rr Rs Rj Rk Ro Rn Rt bq Rw Rx false false [])).hq) (((RS.mk sc us pw hk hs hn hp port false true ([]:List Bs) hq q hf fg bare sp I).au (RS.mk Rm Rv Ru Rp Rq Rr Rs Rj Rk Ro Rn Rt bq Rw Rx false false [])).q) (((RS.mk sc us pw hk hs hn hp port false true ([]:List Bs) hq q hf fg bare sp I).au (RS.mk Rm Rv Ru Rp Rq Rr Rs Rj Rk Ro Rn Rt bq Rw Rx false false [])).hf) (((RS.mk sc us pw hk hs hn hp port false true ([]:List Bs) hq q hf fg bare sp I).au (RS.mk Rm Rv Ru Rp Rq Rr Rs Rj Rk Ro Rn Rt bq Rw Rx false false [])).fg) (((RS.mk sc us pw hk hs hn hp port false true ([]:List Bs) hq q hf fg bare sp I).au (RS.mk Rm Rv Ru Rp Rq Rr Rs Rj Rk Ro Rn Rt bq Rw Rx false false [])).bare) (((RS.mk sc us pw hk hs hn hp port false true ([]:List Bs) hq q hf fg bare sp I).au (RS.mk Rm Rv Ru Rp Rq Rr Rs Rj Rk Ro Rn Rt bq Rw Rx false false [])).sp) (((RS.mk sc us pw hk hs hn hp port false true ([]:List Bs) hq q hf fg bare sp I).au (RS.mk Rm Rv Ru Rp Rq Rr Rs Rj Rk Ro Rn Rt bq Rw Rx false false [])).I),bW 0 Rm Rv Ru Rp Rq Rr Rs Rj Rk Ro Rn Rt bq Rw Rx]:=fun hpre F w vs bs τ hF hT hw hb hτ hl hx=>
 Cb sc us pw hk hs hn hp port true [] hq q hf fg bare sp I Rm Rv Ru Rp Rq Rr Rs Rj Rk Ro Rn Rt bq Rw Rx hpre F w vs bs τ hF hT hw hb hτ ⟨hl.len,hl.nd,hl.bF,hl.mks,hl.inj,fun i x hx=>by
  match i,hx with
  |0,hx=>
   injection hx with hx
   subst hx;obtain ⟨b,h1,u,e,fz,g1,g2,g3,g4,g5⟩:=hl.box 0 _ rfl;exact ⟨b,h1,u,e,fz,g1,g2,aN.map (f:=IL) (fun y v _ hy=>BS hy) (fun y _=>BT y) g3,g4,g5⟩
  |1,hx=>exact hl.box 1 x hx
  |i+2,hx=>cases hx⟩ hx
theorem ED(sc us pw:Bs)(hk:Int)(hs:Bs)(hn:Int)(hp:List Int)(port:Int)(hq:Bool)(q:Bs)(hf:Bool)(fg:Bs)(bare sp:Bool)(I:Bs)(Rm Rv Ru:Bs)(Rp:Int)(Rq:Bs)(Rr:Int)(Rs:List Int)(Rj:Int)(Rk Ro:Bool)(Rn:List Bs)(Rt:Bool)(bq:Bs)(Rw:Bool)(Rx:Bs):ae Tryz.prog az 47 [.ptr 0 0,aE 0 (.ptr 1 0) sc us pw hk hs hn hp port false true [] hq q hf fg bare sp I,bW 0 Rm Rv Ru Rp Rq Rr Rs Rj Rk Ro Rn Rt bq Rw Rx] ⟨I.length<=300000/\Rn.length<=100000/\(ak I I 0).2.2=false/\Rk=false/\Rm=fL/\aB (bK Rm) I 0=false/\ck I=false/\bN I=false,.tup [.int .i64 0,aE 0 (.ptr 1 0) (((RS.mk sc us pw hk hs hn hp port false true ([]:List Bs) hq q hf fg bare sp I).au (RS.mk Rm Rv Ru Rp Rq Rr Rs Rj Rk Ro Rn Rt bq Rw Rx false false [])).sc) (((RS.mk sc us pw hk hs hn hp port false true ([]:List Bs) hq q hf fg bare sp I).au (RS.mk Rm Rv Ru Rp Rq Rr Rs Rj Rk Ro Rn Rt bq Rw Rx false false [])).us) (((RS.mk sc us pw hk hs hn hp port false true ([]:List Bs) hq q hf fg bare sp I).au (RS.mk Rm Rv Ru Rp Rq Rr Rs Rj Rk Ro Rn Rt bq Rw Rx false false [])).pw) (((RS.mk sc us pw hk hs hn hp port false true ([]:List Bs) hq q hf fg bare sp I).au (RS.mk Rm Rv Ru Rp Rq Rr Rs Rj Rk Ro Rn Rt bq Rw Rx false false [])).hk) (((RS.mk sc us pw hk hs hn hp port false true ([]:List Bs) hq q hf fg bare sp I).au (RS.mk Rm Rv Ru Rp Rq Rr Rs Rj Rk Ro Rn Rt bq Rw Rx false false [])).hs) (((RS.mk sc us pw hk hs hn hp port false true ([]:List Bs) hq q hf fg bare sp I).au (RS.mk Rm Rv Ru Rp Rq Rr Rs Rj Rk Ro Rn Rt bq Rw Rx false false [])).hn) (((RS.mk sc us pw hk hs hn hp port false true ([]:List Bs) hq q hf fg bare sp I).au (RS.mk Rm Rv Ru Rp Rq Rr Rs Rj Rk Ro Rn Rt bq Rw Rx false false [])).hp) (((RS.mk sc us pw hk hs hn hp port false true ([]:List Bs) hq q hf fg bare sp I).au (RS.mk Rm Rv Ru Rp Rq Rr Rs Rj Rk Ro Rn Rt bq Rw Rx false false [])).port) (((RS.mk sc us pw hk hs hn hp port false true ([]:List Bs) hq q hf fg bare sp I).au (RS.mk Rm Rv Ru Rp Rq Rr Rs Rj Rk Ro Rn Rt bq Rw Rx false false [])).Rl) (((RS.mk sc us pw hk hs hn hp port false true ([]:List Bs) hq q hf fg bare sp I).au (RS.mk Rm Rv Ru Rp Rq Rr Rs Rj Rk Ro Rn Rt bq Rw Rx false false [])).pn) (((RS.mk sc us pw hk hs hn hp port false true ([]:List Bs) hq q hf fg bare sp I).au (RS.mk Rm Rv Ru Rp Rq Rr Rs Rj Rk Ro Rn Rt bq Rw Rx false false [])).pl) (((RS.mk sc us pw hk hs hn hp port false true ([]:List Bs) hq q hf fg bare sp I).au (RS.mk Rm Rv Ru Rp Rq Rr Rs Rj Rk Ro Rn Rt bq Rw Rx false false [])).hq) (((RS.mk sc us pw hk hs hn hp port false true ([]:List Bs) hq q hf fg bare sp I).au (RS.mk Rm Rv Ru Rp Rq Rr Rs Rj Rk Ro Rn Rt bq Rw Rx false false [])).q) (((RS.mk sc us pw hk hs hn hp port false true ([]:List Bs) hq q hf fg bare sp I).au (RS.mk Rm Rv Ru Rp Rq Rr Rs Rj Rk Ro Rn Rt bq Rw Rx false false [])).hf) (((RS.mk sc us pw hk hs hn hp port false true ([]:List Bs) hq q hf fg bare sp I).au (RS.mk Rm Rv Ru Rp Rq Rr Rs Rj Rk Ro Rn Rt bq Rw Rx false false [])).fg) (((RS.mk sc us pw hk hs hn hp port false true ([]:List Bs) hq q hf fg bare sp I).au (RS.mk Rm Rv Ru Rp Rq Rr Rs Rj Rk Ro Rn Rt bq Rw Rx false false [])).bare) (((RS.mk sc us pw hk hs hn hp port false true ([]:List Bs) hq q hf fg bare sp I).au (RS.mk Rm Rv Ru Rp Rq Rr Rs Rj Rk Ro Rn Rt bq Rw Rx false false [])).sp) (((RS.mk sc us pw hk hs hn hp port false true ([]:List Bs) hq q hf fg bare sp I).au (RS.mk Rm Rv Ru Rp Rq Rr Rs Rj Rk Ro Rn Rt bq Rw Rx false false [])).I),bW 0 Rm Rv Ru Rp Rq Rr Rs Rj Rk Ro Rn Rt bq Rw Rx]⟩:=ae.aZ (fun h=>by have e:List.isEmpty (PV.aC PV.bU [.ptr 0 0,aE 0 (.ptr 1 0) sc us pw hk hs hn hp port false true [] hq q hf fg bare sp I,bW 0 Rm Rv Ru Rp Rq Rr Rs Rj Rk Ro Rn Rt bq Rw Rx])=false:=(by kernel_rfl);exact Bool.noConfusion (e.symm.trans (congrArg List.isEmpty h))) (y9 sc us pw hk hs hn hp port hq q hf fg bare sp I Rm Rv Ru Rp Rq Rr Rs Rj Rk Ro Rn Rt bq Rw Rx)
def lC:List PV->Option aD:=fun xs=>match xs with
 |[.ptr 0 0,aE 0 (.ptr 1 0) sc us pw hk hs hn hp port false true [] hq q hf fg bare sp I,bW 0 Rm Rv Ru Rp Rq Rr Rs Rj Rk Ro Rn Rt bq Rw Rx]=>some ⟨I.length<=300000/\Rn.length<=100000/\(ak I I 0).2.2=false/\Rk=false/\Rm=fL/\aB (bK Rm) I 0=false/\ck I=false/\bN I=false,.tup [.int .i64 0,aE 0 (.ptr 1 0) (((RS.mk sc us pw hk hs hn hp port false true ([]:List Bs) hq q hf fg bare sp I).au (RS.mk Rm Rv Ru Rp Rq Rr Rs Rj Rk Ro Rn Rt bq Rw Rx false false [])).sc) (((RS.mk sc us pw hk hs hn hp port false true ([]:List Bs) hq q hf fg bare sp I).au (RS.mk Rm Rv Ru Rp Rq Rr Rs Rj Rk Ro Rn Rt bq Rw Rx false false [])).us) (((RS.mk sc us pw hk hs hn hp port false true ([]:List Bs) hq q hf fg bare sp I).au (RS.mk Rm Rv Ru Rp Rq Rr Rs Rj Rk Ro Rn Rt bq Rw Rx false false [])).pw) (((RS.mk sc us pw hk hs hn hp port false true ([]:List Bs) hq q hf fg bare sp I).au (RS.mk Rm Rv Ru Rp Rq Rr Rs Rj Rk Ro Rn Rt bq Rw Rx false false [])).hk) (((RS.mk sc us pw hk hs hn hp port false true ([]:List Bs) hq q hf fg bare sp I).au (RS.mk Rm Rv Ru Rp Rq Rr Rs Rj Rk Ro Rn Rt bq Rw Rx false false [])).hs) (((RS.mk sc us pw hk hs hn hp port false true ([]:List Bs) hq q hf fg bare sp I).au (RS.mk Rm Rv Ru Rp Rq Rr Rs Rj Rk Ro Rn Rt bq Rw Rx false false [])).hn) (((RS.mk sc us pw hk hs hn hp port false true ([]:List Bs) hq q hf fg bare sp I).au (RS.mk Rm Rv Ru Rp Rq Rr Rs Rj Rk Ro Rn Rt bq Rw Rx false false [])).hp) (((RS.mk sc us pw hk hs hn hp port false true ([]:List Bs) hq q hf fg bare sp I).au (RS.mk Rm Rv Ru Rp Rq Rr Rs Rj Rk Ro Rn Rt bq Rw Rx false false [])).port) (((RS.mk sc us pw hk hs hn hp port false true ([]:List Bs) hq q hf fg bare sp I).au (RS.mk Rm Rv Ru Rp Rq Rr Rs Rj Rk Ro Rn Rt bq Rw Rx false false [])).Rl) (((RS.mk sc us pw hk hs hn hp port false true ([]:List Bs) hq q hf fg bare sp I).au (RS.mk Rm Rv Ru Rp Rq Rr Rs Rj Rk Ro Rn Rt bq Rw Rx false false [])).pn) (((RS.mk sc us pw hk hs hn hp port false true ([]:List Bs) hq q hf fg bare sp I).au (RS.mk Rm Rv Ru Rp Rq Rr Rs Rj Rk Ro Rn Rt bq Rw Rx false false [])).pl) (((RS.mk sc us pw hk hs hn hp port false true ([]:List Bs) hq q hf fg bare sp I).au (RS.mk Rm Rv Ru Rp Rq Rr Rs Rj Rk Ro Rn Rt bq Rw Rx false false [])).hq) (((RS.mk sc us pw hk hs hn hp port false true ([]:List Bs) hq q hf fg bare sp I).au (RS.mk Rm Rv Ru Rp Rq Rr Rs Rj Rk Ro Rn Rt bq Rw Rx false false [])).q) (((RS.mk sc us pw hk hs hn hp port false true ([]:List Bs) hq q hf fg bare sp I).au (RS.mk Rm Rv Ru Rp Rq Rr Rs Rj Rk Ro Rn Rt bq Rw Rx false false [])).hf) (((RS.mk sc us pw hk hs hn hp port false true ([]:List Bs) hq q hf fg bare sp I).au (RS.mk Rm Rv Ru Rp Rq Rr Rs Rj Rk Ro Rn Rt bq Rw Rx false false [])).fg) (((RS.mk sc us pw hk hs hn hp port false true ([]:List Bs) hq q hf fg bare sp I).au (RS.mk Rm Rv Ru Rp Rq Rr Rs Rj Rk Ro Rn Rt bq Rw Rx false false [])).bare) (((RS.mk sc us pw hk hs hn hp port false true ([]:List Bs) hq q hf fg bare sp I).au (RS.mk Rm Rv Ru Rp Rq Rr Rs Rj Rk Ro Rn Rt bq Rw Rx false false [])).sp) (((RS.mk sc us pw hk hs hn hp port false true ([]:List Bs) hq q hf fg bare sp I).au (RS.mk Rm Rv Ru Rp Rq Rr Rs Rj Rk Ro Rn Rt bq Rw Rx false false [])).I),bW 0 Rm Rv Ru Rp Rq Rr Rs Rj Rk Ro Rn Rt bq Rw Rx]⟩
 |_=>none
theorem uf:∀xs c,lC xs=some c->ae Tryz.prog az 47 xs c:=fun xs c h=>by
 unfold lC at h;split at h
 ·injection h with h;subst h;exact ED _ _ _ _ _ _ _ _ _ _ _ _ _ _ _ _ _ _ _ _ _ _ _ _ _ _ _ _ _ _
 ·cases h
end
section
def Cc:cM:=bS [(46,lP),(47,lC)]
def Cd(l:Bs)(Rm Rv Ru:Bs)(Rp:Int)(Rq:Bs)(Rr:Int)(Rs:List Int)(Rj:Int)(Rk Ro:Bool)(Rn:List Bs)(Rt:Bool)(bq:Bs)(Rw:Bool)(Rx:Bs):aP:=fun i=>none
theorem Ce:df Tryz.prog az Cc:=ah om (ah uf ax)
theorem I3(l:Bs)(Rm Rv Ru:Bs)(Rp:Int)(Rq:Bs)(Rr:Int)(Rs:List Int)(Rj:Int)(Rk Ro:Bool)(Rn:List Bs)(Rt:Bool)(bq:Bs)(Rw:Bool)(Rx:Bs)(k:PV->List PV->Prop):b9 Tryz.prog Cc az (Cd l Rm Rv Ru Rp Rq Rr Rs Rj Rk Ro Rn Rt bq Rw Rx) 1000 Tryz.f30 [.str l,.ptr 0 0] [bW 0 Rm Rv Ru Rp Rq Rr Rs Rj Rk Ro Rn Rt bq Rw Rx] k=(
 (decide ((1048576:Int)<ai l)=true->
 k
 (PV.tup
 [bW 0 [] [] [] 0 [] 0 (List.replicate (8:Nat) 0) 0 false true [] false [] false [],
 PV.int .i64 6])
 [bW 0 Rm Rv Ru Rp Rq Rr Rs Rj Rk Ro Rn Rt bq Rw Rx])/\
 (decide ((1048576:Int)<ai l)=false->
 (List.length l).le 60000/\
 (List.length (an l)<=300000/\
 Rn.length<=100000/\
 (ak (an l) (an l)
 (0:Nat)).2.2=
 false/\
 Rk=false/\
 Rm=fL/\
 aB (bK Rm) (an l)
 (0:Int)=
 false/\
 ck (an l)=false/\
 bN (an l)=false)/\
 ((!decide ((0:Int)=0))=true->
 k
 (PV.tup
 [bW 0 [] [] [] 0 [] 0 (List.replicate (8:Nat) 0) 0 false true [] false [] false [],
 PV.int .i64 0])
 [bW 0 Rm Rv Ru Rp Rq Rr Rs Rj Rk Ro Rn Rt bq Rw Rx])/\
 ((!decide ((0:Int)=0))=false->
 k
 (PV.tup
 [bW 0 ((RS.mk [] [] [] 0 [] 0 (List.replicate (8:Nat) 0) (-1:Int) false true
 [] false [] false [] false false (an l)).au
 (RS.mk Rm Rv Ru Rp Rq Rr Rs Rj Rk Ro Rn Rt bq Rw Rx false false [])).sc ((RS.mk [] [] [] 0 [] 0 (List.replicate (8:Nat) 0) (-1:Int) false true
 [] false [] false [] false false (an l)).au
 (RS.mk Rm Rv Ru Rp Rq Rr Rs Rj Rk Ro Rn Rt bq Rw Rx false false [])).us ((RS.mk [] [] [] 0 [] 0 (List.replicate (8:Nat) 0) (-1:Int) false true
 [] false [] false [] false false (an l)).au
 (RS.mk Rm Rv Ru Rp Rq Rr Rs Rj Rk Ro Rn Rt bq Rw Rx false false [])).pw ((RS.mk [] [] [] 0 [] 0 (List.replicate (8:Nat) 0) (-1:Int) false
 true [] false [] false [] false false (an l)).au
 (RS.mk Rm Rv Ru Rp Rq Rr Rs Rj Rk Ro Rn Rt bq Rw Rx false false [])).hk ((RS.mk [] [] [] 0 [] 0 (List.replicate (8:Nat) 0) (-1:Int) false
 true [] false [] false [] false false (an l)).au
 (RS.mk Rm Rv Ru Rp Rq Rr Rs Rj Rk Ro Rn Rt bq Rw Rx false false [])).hs ((RS.mk [] [] [] 0 [] 0 (List.replicate (8:Nat) 0) (-1:Int) false
 true [] false [] false [] false false (an l)).au
 (RS.mk Rm Rv Ru Rp Rq Rr Rs Rj Rk Ro Rn Rt bq Rw Rx false false [])).hn ((RS.mk [] [] [] 0 [] 0 (List.replicate (8:Nat) 0) (-1:Int) false
 true [] false [] false [] false false (an l)).au
 (RS.mk Rm Rv Ru Rp Rq Rr Rs Rj Rk Ro Rn Rt bq Rw Rx false false
 [])).hp ((RS.mk [] [] [] 0 [] 0 (List.replicate (8:Nat) 0) (-1:Int) false true
 [] false [] false [] false false (an l)).au
 (RS.mk Rm Rv Ru Rp Rq Rr Rs Rj Rk Ro Rn Rt bq Rw Rx false false [])).port ((RS.mk [] [] [] 0 [] 0 (List.replicate (8:Nat) 0) (-1:Int) false true
 [] false [] false [] false false (an l)).au
 (RS.mk Rm Rv Ru Rp Rq Rr Rs Rj Rk Ro Rn Rt bq Rw Rx false false [])).Rl ((RS.mk [] [] [] 0 [] 0 (List.replicate (8:Nat) 0) (-1:Int) false true
 [] false [] false [] false false (an l)).au
 (RS.mk Rm Rv Ru Rp Rq Rr Rs Rj Rk Ro Rn Rt bq Rw Rx false false [])).pn ((RS.mk [] [] [] 0 [] 0 (List.replicate (8:Nat) 0) (-1:Int) false true
 [] false [] false [] false false (an l)).au
 (RS.mk Rm Rv Ru Rp Rq Rr Rs Rj Rk Ro Rn Rt bq Rw Rx false false [])).pl ((RS.mk [] [] [] 0 [] 0 (List.replicate (8:Nat) 0) (-1:Int) false true
 [] false [] false [] false false (an l)).au
 (RS.mk Rm Rv Ru Rp Rq Rr Rs Rj Rk Ro Rn Rt bq Rw Rx false false [])).hq ((RS.mk [] [] [] 0 [] 0 (List.replicate (8:Nat) 0) (-1:Int) false true
 [] false [] false [] false false (an l)).au
 (RS.mk Rm Rv Ru Rp Rq Rr Rs Rj Rk Ro Rn Rt bq Rw Rx false false [])).q ((RS.mk [] [] [] 0 [] 0 (List.replicate (8:Nat) 0) (-1:Int) false true
 [] false [] false [] false false (an l)).au
 (RS.mk Rm Rv Ru Rp Rq Rr Rs Rj Rk Ro Rn Rt bq Rw Rx false false [])).hf ((RS.mk [] [] [] 0 [] 0 (List.replicate (8:Nat) 0) (-1:Int) false true
 [] false [] false [] false false (an l)).au
 (RS.mk Rm Rv Ru Rp Rq Rr Rs Rj Rk Ro Rn Rt bq Rw Rx false false [])).fg,
 PV.int .i64 0])
 [bW 0 Rm Rv Ru Rp Rq Rr Rs Rj Rk Ro Rn Rt bq Rw Rx]))):=by kernel_rfl
attribute [local irreducible] Go.Vc.cD Go.Vc.b9
theorem Cf(l:Bs)(Rm Rv Ru:Bs)(Rp:Int)(Rq:Bs)(Rr:Int)(Rs:List Int)(Rj:Int)(Rk Ro:Bool)(Rn:List Bs)(Rt:Bool)(bq:Bs)(Rw:Bool)(Rx:Bs):bE Tryz.prog az 30 [.str l,.ptr 0 0] [bW 0 Rm Rv Ru Rp Rq Rr Rs Rj Rk Ro Rn Rt bq Rw Rx] (l.length<=60000/\Rn.length<=100000/\(ak (an l) (an l) 0).2.2=false/\Rk=false/\Rm=fL/\aB (bK Rm) (an l) 0=false/\ck (an l)=false/\bN (an l)=false) (.tup [bW 0 ((RS.init (an l)).au (RS.mk Rm Rv Ru Rp Rq Rr Rs Rj Rk Ro Rn Rt bq Rw Rx false false [])).sc ((RS.init (an l)).au (RS.mk Rm Rv Ru Rp Rq Rr Rs Rj Rk Ro Rn Rt bq Rw Rx false false [])).us ((RS.init (an l)).au (RS.mk Rm Rv Ru Rp Rq Rr Rs Rj Rk Ro Rn Rt bq Rw Rx false false [])).pw ((RS.init (an l)).au (RS.mk Rm Rv Ru Rp Rq Rr Rs Rj Rk Ro Rn Rt bq Rw Rx false false [])).hk ((RS.init (an l)).au (RS.mk Rm Rv Ru Rp Rq Rr Rs Rj Rk Ro Rn Rt bq Rw Rx false false [])).hs ((RS.init (an l)).au (RS.mk Rm Rv Ru Rp Rq Rr Rs Rj Rk Ro Rn Rt bq Rw Rx false false [])).hn ((RS.init (an l)).au (RS.mk Rm Rv Ru Rp Rq Rr Rs Rj Rk Ro Rn Rt bq Rw Rx false false [])).hp ((RS.init (an l)).au (RS.mk Rm Rv Ru Rp Rq Rr Rs Rj Rk Ro Rn Rt bq Rw Rx false false [])).port ((RS.init (an l)).au (RS.mk Rm Rv Ru Rp Rq Rr Rs Rj Rk Ro Rn Rt bq Rw Rx false false [])).Rl ((RS.init (an l)).au (RS.mk Rm Rv Ru Rp Rq Rr Rs Rj Rk Ro Rn Rt bq Rw Rx false false [])).pn ((RS.init (an l)).au (RS.mk Rm Rv Ru Rp Rq Rr Rs Rj Rk Ro Rn Rt bq Rw Rx false false [])).pl ((RS.init (an l)).au (RS.mk Rm Rv Ru Rp Rq Rr Rs Rj Rk Ro Rn Rt bq Rw Rx false false [])).hq ((RS.init (an l)).au (RS.mk Rm Rv Ru Rp Rq Rr Rs Rj Rk Ro Rn Rt bq Rw Rx false false [])).q ((RS.init (an l)).au (RS.mk Rm Rv Ru Rp Rq Rr Rs Rj Rk Ro Rn Rt bq Rw Rx false false [])).hf ((RS.init (an l)).au (RS.mk Rm Rv Ru Rp Rq Rr Rs Rj Rk Ro Rn Rt bq Rw Rx false false [])).fg,.int .i64 0]) [bW 0 Rm Rv Ru Rp Rq Rr Rs Rj Rk Ro Rn Rt bq Rw Rx]:=bT (by kernel_rfl) Ce (H:=Cd l Rm Rv Ru Rp Rq Rr Rs Rj Rk Ro Rn Rt bq Rw Rx) (fuel:=1000) Tryz.func30 (by kernel_rfl) (Nat.le_of_ble_eq_true rfl) fun hpre=>(I3 l Rm Rv Ru Rp Rq Rr Rs Rj Rk Ro Rn Rt bq Rw Rx _).mpr (by
 obtain ⟨h1,h2,h3,h4,h5,h6,h7,h8⟩:=hpre;have hs:=w6 l;exact ⟨fun h=>absurd (of_decide_eq_true h) (by unfold ai;omega),fun _=>⟨h1,⟨by omega,h2,h3,h4,h5,h6,h7,h8⟩,(fun h=>absurd h (by decide)),fun _=>⟨rfl,rfl⟩⟩⟩)
theorem I4(l:Bs)(Rm Rv Ru:Bs)(Rp:Int)(Rq:Bs)(Rr:Int)(Rs:List Int)(Rj:Int)(Rk Ro:Bool)(Rn:List Bs)(Rt:Bool)(bq:Bs)(Rw:Bool)(Rx:Bs):ae Tryz.prog az 30 [.str l,.ptr 0 0,bW 0 Rm Rv Ru Rp Rq Rr Rs Rj Rk Ro Rn Rt bq Rw Rx] ⟨l.length<=60000/\Rn.length<=100000/\(ak (an l) (an l) 0).2.2=false/\Rk=false/\Rm=fL/\aB (bK Rm) (an l) 0=false/\ck (an l)=false/\bN (an l)=false,.tup [.tup [bW 0 ((RS.init (an l)).au (RS.mk Rm Rv Ru Rp Rq Rr Rs Rj Rk Ro Rn Rt bq Rw Rx false false [])).sc ((RS.init (an l)).au (RS.mk Rm Rv Ru Rp Rq Rr Rs Rj Rk Ro Rn Rt bq Rw Rx false false [])).us ((RS.init (an l)).au (RS.mk Rm Rv Ru Rp Rq Rr Rs Rj Rk Ro Rn Rt bq Rw Rx false false [])).pw ((RS.init (an l)).au (RS.mk Rm Rv Ru Rp Rq Rr Rs Rj Rk Ro Rn Rt bq Rw Rx false false [])).hk ((RS.init (an l)).au (RS.mk Rm Rv Ru Rp Rq Rr Rs Rj Rk Ro Rn Rt bq Rw Rx false false [])).hs ((RS.init (an l)).au (RS.mk Rm Rv Ru Rp Rq Rr Rs Rj Rk Ro Rn Rt bq Rw Rx false false [])).hn ((RS.init (an l)).au (RS.mk Rm Rv Ru Rp Rq Rr Rs Rj Rk Ro Rn Rt bq Rw Rx false false [])).hp ((RS.init (an l)).au (RS.mk Rm Rv Ru Rp Rq Rr Rs Rj Rk Ro Rn Rt bq Rw Rx false false [])).port ((RS.init (an l)).au (RS.mk Rm Rv Ru Rp Rq Rr Rs Rj Rk Ro Rn Rt bq Rw Rx false false [])).Rl ((RS.init (an l)).au (RS.mk Rm Rv Ru Rp Rq Rr Rs Rj Rk Ro Rn Rt bq Rw Rx false false [])).pn ((RS.init (an l)).au (RS.mk Rm Rv Ru Rp Rq Rr Rs Rj Rk Ro Rn Rt bq Rw Rx false false [])).pl ((RS.init (an l)).au (RS.mk Rm Rv Ru Rp Rq Rr Rs Rj Rk Ro Rn Rt bq Rw Rx false false [])).hq ((RS.init (an l)).au (RS.mk Rm Rv Ru Rp Rq Rr Rs Rj Rk Ro Rn Rt bq Rw Rx false false [])).q ((RS.init (an l)).au (RS.mk Rm Rv Ru Rp Rq Rr Rs Rj Rk Ro Rn Rt bq Rw Rx false false [])).hf ((RS.init (an l)).au (RS.mk Rm Rv Ru Rp Rq Rr Rs Rj Rk Ro Rn Rt bq Rw Rx false false [])).fg,.int .i64 0],bW 0 Rm Rv Ru Rp Rq Rr Rs Rj Rk Ro Rn Rt bq Rw Rx]⟩:=ae.aZ (fun h=>by have e:List.isEmpty (PV.aC PV.bU [.str l,.ptr 0 0,bW 0 Rm Rv Ru Rp Rq Rr Rs Rj Rk Ro Rn Rt bq Rw Rx])=false:=(by kernel_rfl);exact Bool.noConfusion (e.symm.trans (congrArg List.isEmpty h))) (Cf l Rm Rv Ru Rp Rq Rr Rs Rj Rk Ro Rn Rt bq Rw Rx)
def nc:List PV->Option aD:=fun xs=>match xs with
 |[.str l,.ptr 0 0,bW 0 Rm Rv Ru Rp Rq Rr Rs Rj Rk Ro Rn Rt bq Rw Rx]=>some ⟨l.length<=60000/\Rn.length<=100000/\(ak (an l) (an l) 0).2.2=false/\Rk=false/\Rm=fL/\aB (bK Rm) (an l) 0=false/\ck (an l)=false/\bN (an l)=false,.tup [.tup [bW 0 ((RS.init (an l)).au (RS.mk Rm Rv Ru Rp Rq Rr Rs Rj Rk Ro Rn Rt bq Rw Rx false false [])).sc ((RS.init (an l)).au (RS.mk Rm Rv Ru Rp Rq Rr Rs Rj Rk Ro Rn Rt bq Rw Rx false false [])).us ((RS.init (an l)).au (RS.mk Rm Rv Ru Rp Rq Rr Rs Rj Rk Ro Rn Rt bq Rw Rx false false [])).pw ((RS.init (an l)).au (RS.mk Rm Rv Ru Rp Rq Rr Rs Rj Rk Ro Rn Rt bq Rw Rx false false [])).hk ((RS.init (an l)).au (RS.mk Rm Rv Ru Rp Rq Rr Rs Rj Rk Ro Rn Rt bq Rw Rx false false [])).hs ((RS.init (an l)).au (RS.mk Rm Rv Ru Rp Rq Rr Rs Rj Rk Ro Rn Rt bq Rw Rx false false [])).hn ((RS.init (an l)).au (RS.mk Rm Rv Ru Rp Rq Rr Rs Rj Rk Ro Rn Rt bq Rw Rx false false [])).hp ((RS.init (an l)).au (RS.mk Rm Rv Ru Rp Rq Rr Rs Rj Rk Ro Rn Rt bq Rw Rx false false [])).port ((RS.init (an l)).au (RS.mk Rm Rv Ru Rp Rq Rr Rs Rj Rk Ro Rn Rt bq Rw Rx false false [])).Rl ((RS.init (an l)).au (RS.mk Rm Rv Ru Rp Rq Rr Rs Rj Rk Ro Rn Rt bq Rw Rx false false [])).pn ((RS.init (an l)).au (RS.mk Rm Rv Ru Rp Rq Rr Rs Rj Rk Ro Rn Rt bq Rw Rx false false [])).pl ((RS.init (an l)).au (RS.mk Rm Rv Ru Rp Rq Rr Rs Rj Rk Ro Rn Rt bq Rw Rx false false [])).hq ((RS.init (an l)).au (RS.mk Rm Rv Ru Rp Rq Rr Rs Rj Rk Ro Rn Rt bq Rw Rx false false [])).q ((RS.init (an l)).au (RS.mk Rm Rv Ru Rp Rq Rr Rs Rj Rk Ro Rn Rt bq Rw Rx false false [])).hf ((RS.init (an l)).au (RS.mk Rm Rv Ru Rp Rq Rr Rs Rj Rk Ro Rn Rt bq Rw Rx false false [])).fg,.int .i64 0],bW 0 Rm Rv Ru Rp Rq Rr Rs Rj Rk Ro Rn Rt bq Rw Rx]⟩
 |_=>none
theorem uW:∀xs c,nc xs=some c->ae Tryz.prog az 30 xs c:=fun xs c h=>by
 unfold nc at h;split at h
 ·injection h with h;subst h;exact I4 _ _ _ _ _ _ _ _ _ _ _ _ _ _ _ _
 ·cases h
end
section
def Cg:cM:=bS [(30,nc)]
def Ch(l:Bs)(Rm Rv Ru:Bs)(Rp:Int)(Rq:Bs)(Rr:Int)(Rs:List Int)(Rj:Int)(Rk Ro:Bool)(Rn:List Bs)(Rt:Bool)(bq:Bs)(Rw:Bool)(Rx:Bs):aP:=fun i=>none
theorem Ci:df Tryz.prog az Cg:=ah uW ax
theorem I5(l:Bs)(Rm Rv Ru:Bs)(Rp:Int)(Rq:Bs)(Rr:Int)(Rs:List Int)(Rj:Int)(Rk Ro:Bool)(Rn:List Bs)(Rt:Bool)(bq:Bs)(Rw:Bool)(Rx:Bs)(k:PV->Prop):cD Tryz.prog Cg az (Ch l Rm Rv Ru Rp Rq Rr Rs Rj Rk Ro Rn Rt bq Rw Rx) 1000 Tryz.f21 [.str l,bW 0 Rm Rv Ru Rp Rq Rr Rs Rj Rk Ro Rn Rt bq Rw Rx] k=(
 (List.length l<=60000/\
 Rn.length<=100000/\
 (ak (an l) (an l)
 (0:Nat)).2.2=
 false/\
 Rk=false/\
 Rm=fL/\
 aB (bK Rm) (an l) 0=
 false/\
 ck (an l)=false/\
 bN (an l)=false)/\
 k
 (PV.tup
 [bW 0 ((RS.init (an l)).au
 (RS.mk Rm Rv Ru Rp Rq Rr Rs Rj Rk Ro Rn Rt bq Rw Rx false false [])).sc ((RS.init (an l)).au
 (RS.mk Rm Rv Ru Rp Rq Rr Rs Rj Rk Ro Rn Rt bq Rw Rx false false [])).us ((RS.init (an l)).au
 (RS.mk Rm Rv Ru Rp Rq Rr Rs Rj Rk Ro Rn Rt bq Rw Rx false false [])).pw ((RS.init (an l)).au
 (RS.mk Rm Rv Ru Rp Rq Rr Rs Rj Rk Ro Rn Rt bq Rw Rx false false [])).hk ((RS.init (an l)).au
 (RS.mk Rm Rv Ru Rp Rq Rr Rs Rj Rk Ro Rn Rt bq Rw Rx false false [])).hs ((RS.init (an l)).au
 (RS.mk Rm Rv Ru Rp Rq Rr Rs Rj Rk Ro Rn Rt bq Rw Rx false false [])).hn ((RS.init (an l)).au
 (RS.mk Rm Rv Ru Rp Rq Rr Rs Rj Rk Ro Rn Rt bq Rw Rx false false [])).hp ((RS.init (an l)).au
 (RS.mk Rm Rv Ru Rp Rq Rr Rs Rj Rk Ro Rn Rt bq Rw Rx false false [])).port ((RS.init (an l)).au
 (RS.mk Rm Rv Ru Rp Rq Rr Rs Rj Rk Ro Rn Rt bq Rw Rx false false [])).Rl ((RS.init (an l)).au
 (RS.mk Rm Rv Ru Rp Rq Rr Rs Rj Rk Ro Rn Rt bq Rw Rx false false [])).pn ((RS.init (an l)).au
 (RS.mk Rm Rv Ru Rp Rq Rr Rs Rj Rk Ro Rn Rt bq Rw Rx false false [])).pl ((RS.init (an l)).au
 (RS.mk Rm Rv Ru Rp Rq Rr Rs Rj Rk Ro Rn Rt bq Rw Rx false false [])).hq ((RS.init (an l)).au
 (RS.mk Rm Rv Ru Rp Rq Rr Rs Rj Rk Ro Rn Rt bq Rw Rx false false [])).q ((RS.init (an l)).au
 (RS.mk Rm Rv Ru Rp Rq Rr Rs Rj Rk Ro Rn Rt bq Rw Rx false false [])).hf ((RS.init (an l)).au
 (RS.mk Rm Rv Ru Rp Rq Rr Rs Rj Rk Ro Rn Rt bq Rw Rx false false [])).fg,
 PV.int .i64 0])):=by kernel_rfl
attribute [local irreducible] Go.Vc.cD
theorem I6(l:Bs)(Rm Rv Ru:Bs)(Rp:Int)(Rq:Bs)(Rr:Int)(Rs:List Int)(Rj:Int)(Rk Ro:Bool)(Rn:List Bs)(Rt:Bool)(bq:Bs)(Rw:Bool)(Rx:Bs):ae Tryz.prog az 21 [.str l,bW 0 Rm Rv Ru Rp Rq Rr Rs Rj Rk Ro Rn Rt bq Rw Rx] ⟨l.length<=60000/\Rn.length<=100000/\(ak (an l) (an l) 0).2.2=false/\Rk=false/\Rm=fL/\aB (bK Rm) (an l) 0=false/\ck (an l)=false/\bN (an l)=false,.tup [bW 0 ((RS.init (an l)).au (RS.mk Rm Rv Ru Rp Rq Rr Rs Rj Rk Ro Rn Rt bq Rw Rx false false [])).sc ((RS.init (an l)).au (RS.mk Rm Rv Ru Rp Rq Rr Rs Rj Rk Ro Rn Rt bq Rw Rx false false [])).us ((RS.init (an l)).au (RS.mk Rm Rv Ru Rp Rq Rr Rs Rj Rk Ro Rn Rt bq Rw Rx false false [])).pw ((RS.init (an l)).au (RS.mk Rm Rv Ru Rp Rq Rr Rs Rj Rk Ro Rn Rt bq Rw Rx false false [])).hk ((RS.init (an l)).au (RS.mk Rm Rv Ru Rp Rq Rr Rs Rj Rk Ro Rn Rt bq Rw Rx false false [])).hs ((RS.init (an l)).au (RS.mk Rm Rv Ru Rp Rq Rr Rs Rj Rk Ro Rn Rt bq Rw Rx false false [])).hn ((RS.init (an l)).au (RS.mk Rm Rv Ru Rp Rq Rr Rs Rj Rk Ro Rn Rt bq Rw Rx false false [])).hp ((RS.init (an l)).au (RS.mk Rm Rv Ru Rp Rq Rr Rs Rj Rk Ro Rn Rt bq Rw Rx false false [])).port ((RS.init (an l)).au (RS.mk Rm Rv Ru Rp Rq Rr Rs Rj Rk Ro Rn Rt bq Rw Rx false false [])).Rl ((RS.init (an l)).au (RS.mk Rm Rv Ru Rp Rq Rr Rs Rj Rk Ro Rn Rt bq Rw Rx false false [])).pn ((RS.init (an l)).au (RS.mk Rm Rv Ru Rp Rq Rr Rs Rj Rk Ro Rn Rt bq Rw Rx false false [])).pl ((RS.init (an l)).au (RS.mk Rm Rv Ru Rp Rq Rr Rs Rj Rk Ro Rn Rt bq Rw Rx false false [])).hq ((RS.init (an l)).au (RS.mk Rm Rv Ru Rp Rq Rr Rs Rj Rk Ro Rn Rt bq Rw Rx false false [])).q ((RS.init (an l)).au (RS.mk Rm Rv Ru Rp Rq Rr Rs Rj Rk Ro Rn Rt bq Rw Rx false false [])).hf ((RS.init (an l)).au (RS.mk Rm Rv Ru Rp Rq Rr Rs Rj Rk Ro Rn Rt bq Rw Rx false false [])).fg,.int .i64 0]⟩:=bR (by kernel_rfl) Ci (H:=Ch l Rm Rv Ru Rp Rq Rr Rs Rj Rk Ro Rn Rt bq Rw Rx) (fuel:=1000) Tryz.func21 (by kernel_rfl) fun hpre=>(I5 l Rm Rv Ru Rp Rq Rr Rs Rj Rk Ro Rn Rt bq Rw Rx _).mpr (by
 exact ⟨hpre,rfl⟩)
end
section
attribute [local instance] PW
noncomputable def eG(l:Bs):RS×Int:=Classical.choose (⟨bV l,rfl⟩:∃x,x=bV l)
theorem lR(l:Bs):eG l=bV l:=Classical.choose_spec (⟨bV l,rfl⟩:∃x,x=bV l)
noncomputable def du(l:Bs)(b:RS):RS:=Classical.choose (⟨(RS.init (an l)).au b,rfl⟩:∃x,x=(RS.init (an l)).au b)
theorem Cj(l:Bs)(b:RS):du l b=(RS.init (an l)).au b:=Classical.choose_spec (⟨(RS.init (an l)).au b,rfl⟩:∃x,x=(RS.init (an l)).au b)
@[irreducible] def za (l:Bs):Prop:=l.length<=60000
theorem I7(l:Bs):za l=(l.length<=60000):=by unfold za;rfl
@[irreducible] def N2 (l:Bs) (Rm Rv Ru:Bs) (Rp:Int) (Rq:Bs) (Rr:Int) (Rs:List Int) (Rj:Int) (Rk Ro:Bool) (Rn:List Bs) (Rt:Bool) (bq:Bs) (Rw:Bool) (Rx:Bs):Prop:=l.length<=60000/\Rn.length<=100000/\(ak (an l) (an l) 0).2.2=false/\Rk=false/\Rm=fL/\aB (bK Rm) (an l) 0=false/\ck (an l)=false/\bN (an l)=false
theorem N3(l:Bs)(Rm Rv Ru:Bs)(Rp:Int)(Rq:Bs)(Rr:Int)(Rs:List Int)(Rj:Int)(Rk Ro:Bool)(Rn:List Bs)(Rt:Bool)(bq:Bs)(Rw:Bool)(Rx:Bs):N2 l Rm Rv Ru Rp Rq Rr Rs Rj Rk Ro Rn Rt bq Rw Rx=(l.length<=60000/\Rn.length<=100000/\(ak (an l) (an l) 0).2.2=false/\Rk=false/\Rm=fL/\aB (bK Rm) (an l) 0=false/\ck (an l)=false/\bN (an l)=false):=by unfold N2;rfl
theorem I8(l:Bs):ae Tryz.prog az 19 [.str l] ⟨za l,.tup [bW 0 ((eG l).1).sc ((eG l).1).us ((eG l).1).pw ((eG l).1).hk ((eG l).1).hs ((eG l).1).hn ((eG l).1).hp ((eG l).1).port ((eG l).1).Rl ((eG l).1).pn ((eG l).1).pl ((eG l).1).hq ((eG l).1).q ((eG l).1).hf ((eG l).1).fg,.int .i64 (eG l).2]⟩:=(IP l).to (fun h=>by rw [I7]at h;exact h) (fun _=>by rw [lR])
noncomputable def kr:List PV->Option aD:=fun xs=>match xs with
 |[.str l]=>some ⟨za l,.tup [bW 0 ((eG l).1).sc ((eG l).1).us ((eG l).1).pw ((eG l).1).hk ((eG l).1).hs ((eG l).1).hn ((eG l).1).hp ((eG l).1).port ((eG l).1).Rl ((eG l).1).pn ((eG l).1).pl ((eG l).1).hq ((eG l).1).q ((eG l).1).hf ((eG l).1).fg,.int .i64 (eG l).2]⟩
 |_=>none
theorem mg:∀xs c,kr xs=some c->ae Tryz.prog az 19 xs c:=fun xs c h=>by
 unfold kr at h;split at h
 ·injection h with h;subst h;exact I8 _
 ·cases h
theorem L9(l:Bs)(Rm Rv Ru:Bs)(Rp:Int)(Rq:Bs)(Rr:Int)(Rs:List Int)(Rj:Int)(Rk Ro:Bool)(Rn:List Bs)(Rt:Bool)(bq:Bs)(Rw:Bool)(Rx:Bs):ae Tryz.prog az 21 [.str l,bW 0 Rm Rv Ru Rp Rq Rr Rs Rj Rk Ro Rn Rt bq Rw Rx] ⟨N2 l Rm Rv Ru Rp Rq Rr Rs Rj Rk Ro Rn Rt bq Rw Rx,.tup [bW 0 (du l (RS.mk Rm Rv Ru Rp Rq Rr Rs Rj Rk Ro Rn Rt bq Rw Rx false false [])).sc (du l (RS.mk Rm Rv Ru Rp Rq Rr Rs Rj Rk Ro Rn Rt bq Rw Rx false false [])).us (du l (RS.mk Rm Rv Ru Rp Rq Rr Rs Rj Rk Ro Rn Rt bq Rw Rx false false [])).pw (du l (RS.mk Rm Rv Ru Rp Rq Rr Rs Rj Rk Ro Rn Rt bq Rw Rx false false [])).hk (du l (RS.mk Rm Rv Ru Rp Rq Rr Rs Rj Rk Ro Rn Rt bq Rw Rx false false [])).hs (du l (RS.mk Rm Rv Ru Rp Rq Rr Rs Rj Rk Ro Rn Rt bq Rw Rx false false [])).hn (du l (RS.mk Rm Rv Ru Rp Rq Rr Rs Rj Rk Ro Rn Rt bq Rw Rx false false [])).hp (du l (RS.mk Rm Rv Ru Rp Rq Rr Rs Rj Rk Ro Rn Rt bq Rw Rx false false [])).port (du l (RS.mk Rm Rv Ru Rp Rq Rr Rs Rj Rk Ro Rn Rt bq Rw Rx false false [])).Rl (du l (RS.mk Rm Rv Ru Rp Rq Rr Rs Rj Rk Ro Rn Rt bq Rw Rx false false [])).pn (du l (RS.mk Rm Rv Ru Rp Rq Rr Rs Rj Rk Ro Rn Rt bq Rw Rx false false [])).pl (du l (RS.mk Rm Rv Ru Rp Rq Rr Rs Rj Rk Ro Rn Rt bq Rw Rx false false [])).hq (du l (RS.mk Rm Rv Ru Rp Rq Rr Rs Rj Rk Ro Rn Rt bq Rw Rx false false [])).q (du l (RS.mk Rm Rv Ru Rp Rq Rr Rs Rj Rk Ro Rn Rt bq Rw Rx false false [])).hf (du l (RS.mk Rm Rv Ru Rp Rq Rr Rs Rj Rk Ro Rn Rt bq Rw Rx false false [])).fg,.int .i64 0]⟩:=(I6 l Rm Rv Ru Rp Rq Rr Rs Rj Rk Ro Rn Rt bq Rw Rx).to (fun h=>by rw [N3]at h;exact h) (fun _=>by rw [Cj])
noncomputable def p9:List PV->Option aD:=fun xs=>match xs with
 |[.str l,bW 0 Rm Rv Ru Rp Rq Rr Rs Rj Rk Ro Rn Rt bq Rw Rx]=>some ⟨N2 l Rm Rv Ru Rp Rq Rr Rs Rj Rk Ro Rn Rt bq Rw Rx,.tup [bW 0 (du l (RS.mk Rm Rv Ru Rp Rq Rr Rs Rj Rk Ro Rn Rt bq Rw Rx false false [])).sc (du l (RS.mk Rm Rv Ru Rp Rq Rr Rs Rj Rk Ro Rn Rt bq Rw Rx false false [])).us (du l (RS.mk Rm Rv Ru Rp Rq Rr Rs Rj Rk Ro Rn Rt bq Rw Rx false false [])).pw (du l (RS.mk Rm Rv Ru Rp Rq Rr Rs Rj Rk Ro Rn Rt bq Rw Rx false false [])).hk (du l (RS.mk Rm Rv Ru Rp Rq Rr Rs Rj Rk Ro Rn Rt bq Rw Rx false false [])).hs (du l (RS.mk Rm Rv Ru Rp Rq Rr Rs Rj Rk Ro Rn Rt bq Rw Rx false false [])).hn (du l (RS.mk Rm Rv Ru Rp Rq Rr Rs Rj Rk Ro Rn Rt bq Rw Rx false false [])).hp (du l (RS.mk Rm Rv Ru Rp Rq Rr Rs Rj Rk Ro Rn Rt bq Rw Rx false false [])).port (du l (RS.mk Rm Rv Ru Rp Rq Rr Rs Rj Rk Ro Rn Rt bq Rw Rx false false [])).Rl (du l (RS.mk Rm Rv Ru Rp Rq Rr Rs Rj Rk Ro Rn Rt bq Rw Rx false false [])).pn (du l (RS.mk Rm Rv Ru Rp Rq Rr Rs Rj Rk Ro Rn Rt bq Rw Rx false false [])).pl (du l (RS.mk Rm Rv Ru Rp Rq Rr Rs Rj Rk Ro Rn Rt bq Rw Rx false false [])).hq (du l (RS.mk Rm Rv Ru Rp Rq Rr Rs Rj Rk Ro Rn Rt bq Rw Rx false false [])).q (du l (RS.mk Rm Rv Ru Rp Rq Rr Rs Rj Rk Ro Rn Rt bq Rw Rx false false [])).hf (du l (RS.mk Rm Rv Ru Rp Rq Rr Rs Rj Rk Ro Rn Rt bq Rw Rx false false [])).fg,.int .i64 0]⟩
 |_=>none
theorem zb:∀xs c,p9 xs=some c->ae Tryz.prog az 21 xs c:=fun xs c h=>by
 unfold p9 at h;split at h
 ·injection h with h;subst h;exact L9 _ _ _ _ _ _ _ _ _ _ _ _ _ _ _ _
 ·cases h
end
section
def QP:Bs:=[72,84,84,80,58,92,92,117,64,104,58,56,48,47,97,47,46,46,47,98,63]
def QQ:Bs:=[102,105,108,101,58,47,47,47,67,58,47,121]
def Qq:Bs:=[46,46,92,120]
def aH:Bs:=[104,116,116,112]
def aV:Bs:=[119,115,115]
noncomputable def qa:RS×Int:=eG QP
noncomputable def qb:RS×Int:=eG QQ
noncomputable def aJ:RS:=du Qq (RS.mk qb.1.sc qb.1.us qb.1.pw qb.1.hk qb.1.hs qb.1.hn qb.1.hp qb.1.port qb.1.Rl qb.1.pn qb.1.pl qb.1.hq qb.1.q qb.1.hf qb.1.fg false false [])
theorem QV:qa.2=0/\qa.1.sc=aH/\qa.1.us=[117]/\qa.1.port=-1/\qa.1.pl=[[98]]/\qa.1.hq=true:=by
 unfold qa;rw [lR];decide+kernel
theorem QW:qb.2=0/\qb.1.sc=fL/\qb.1.Rl=false/\qb.1.pl.length<=100000:=by
 unfold qb;rw [lR];decide+kernel
theorem QR:aJ.pl=[[67,58],[120]]:=by
 unfold aJ qb;rw [lR,Cj];decide+kernel
noncomputable def Gf:cM:=bS [(19,kr),(21,p9),(27,eR)]
def Gg:aP:=fun i=>none
theorem EE:df Tryz.prog az Gf:=ah mg (ah zb (ah eS ax))
theorem Ma(k:PV->Prop):cD Tryz.prog Gf az (Gg) 1000 Tryz.f14 [] k=(
 QP.length.le 60000/\QQ.length.le 60000/\(Qq.length<=60000/\qb.1.pl.length<=100000/\false=false/\qb.1.Rl=false/\qb.1.sc=fL/\aB (bK qb.1.sc) (an Qq) 0=false/\ck (an Qq)=false/\bN (an Qq)=false)/\True/\((bif bif bif bif decide (qa.2=0)then decide (qa.1.sc=aH)else false then decide (qa.1.us=([117]:Bs))else false then decide (qa.1.port=(-1:Int))else false then decide (Int.ofNat qa.1.pl.length=1)else false)=true->within (0:Int) (Int.ofNat qa.1.pl.length))/\((bif bif bif bif bif bif bif bif bif decide (qa.2=0)then decide (qa.1.sc=aH)else false then decide (qa.1.us=([117]:Bs))else false then decide (qa.1.port=(-1:Int))else false then decide (Int.ofNat qa.1.pl.length=1)else false then decide (bt qa.1.pl 0=([98]:Bs))else false then qa.1.hq else false then decide (qb.2=0)else false then decide ((0:Int)=0)else false then decide (Int.ofNat aJ.pl.length=2)else false)=true->within (1:Int) (Int.ofNat aJ.pl.length))/\k (PV.bool (bif bif bif bif bif bif bif bif bif bif bif bif decide (qa.2=0)then decide (qa.1.sc=aH)else false then decide (qa.1.us=([117]:Bs))else false then decide (qa.1.port=(-1:Int))else false then decide (Int.ofNat qa.1.pl.length=1)else false then decide (bt qa.1.pl 0=([98]:Bs))else false then qa.1.hq else false then decide (qb.2=0)else false then decide ((0:Int)=0)else false then decide (Int.ofNat aJ.pl.length=2)else false then decide (bt aJ.pl 1=([120]:Bs))else false then decide (MW aV=443)else false then bK aV else false))):=by kernel_rfl
attribute [local irreducible] Go.Vc.cD
theorem Mb:ae Tryz.prog az 14 [] ⟨True,.bool true⟩:=bR (by kernel_rfl) EE (H:=Gg) (fuel:=1000) Tryz.func14 (by kernel_rfl) fun hpre=>(Ma _).mpr (by
 obtain ⟨h1,h2,h3,h4,h5,h6⟩:=QV;obtain ⟨g1,g2,g3,g4⟩:=QW;refine ⟨show(21:Nat)<=60000 by decide,show(12:Nat)<=60000 by decide,⟨show(4:Nat)<=60000 by decide,g4,rfl,g3,g2,by rw [g2];decide,by decide,by decide⟩,trivial,fun _=>by rw [h5];exact ⟨by decide,by decide⟩,fun _=>by rw [QR];exact ⟨by decide,by decide⟩,?_⟩;rw [h1,h2,h3,h4,h5,h6,g1,QR];exact congrArg PV.bool (by decide+kernel))
def qc:List PV->Option aD:=fun xs=>match xs with
 |[]=>some ⟨True,.bool true⟩
 |_=>none
theorem zc:∀xs c,qc xs=some c->ae Tryz.prog az 14 xs c:=fun xs c h=>by
 unfold qc at h;split at h
 ·injection h with h;subst h;exact Mb
 ·cases h
end
section
def Qu(s:Bs)(i:Int):Prop:=Mg (s.take i.toNat)
noncomputable def uH(s:Bs):RS×Int:=eG (Ge++s++[47])
noncomputable def uX(s:Bs):RS×Int:=eG (I0++s++[47])
noncomputable def Ck:cM:=bS [(19,kr),(14,qc),(25,pU)]
def Cl(l:Bs):aP:=fun i=>bif Nat.beq i 4 then some ⟨(Int),(fun s x=>(((s.put 3 (.int .i64 x)).put 19 .undef).put 73 .undef)),(fun s=>s.int 3),(fun s x=>let i:=x;0<=i/\i<=l.length/\Qu l i),(fun s x=>let i:=x;((l.length:Int)-i).toNat),[19,73]⟩else none
theorem Cm:df Tryz.prog az Ck:=ah mg (ah zc (ah yZ ax))
theorem I9(l:Bs)(k:PV->Prop):cD Tryz.prog Ck az (Cl l) 1000 Tryz.f10 [.str l] k=(
 (decide ((60:Int)<ai l)=true->True/\k (PV.bool true))/\(decide ((60:Int)<ai l)=false->eK (VS.mk [] [(0,PV.str l),(2,PV.bool false),(3,PV.int .i64 0),uZ 4,uZ 5,uZ 6,uZ 7,uZ 8,uZ 9,uZ 10,uZ 11,(14,PV.bool (decide ((60:Int)<ai l))),uZ 19,uZ 73,uZ 90] [])/\((0:Int)<=0/\(0:Int)<=↑(List.length l)/\Qu l 0)/\∀(x:Int),(0:Int)<=x/\x<=↑(List.length l)/\Qu l x->(decide (x<ai l)=true->within x (ai l)/\(decide (ag l x<=32)=false->within x (ai l))/\((bif decide (ag l x<=32)then true else decide (ag l x=47))=false->within x (ai l))/\((bif bif decide (ag l x<=32)then true else decide (ag l x=47)then true else decide (ag l x=63))=false->within x (ai l))/\((bif bif bif decide (ag l x<=32)then true else decide (ag l x=47)then true else decide (ag l x=63)then true else decide (ag l x=35))=false->within x (ai l))/\((bif bif bif bif decide (ag l x<=32)then true else decide (ag l x=47)then true else decide (ag l x=63)then true else decide (ag l x=35)then true else decide (ag l x=64))=false->within x (ai l))/\((bif bif bif bif bif decide (ag l x<=32)then true else decide (ag l x=47)then true else decide (ag l x=63)then true else decide (ag l x=35)then true else decide (ag l x=64)then true else decide (ag l x=58))=false->within x (ai l))/\((bif bif bif bif bif bif decide (ag l x<=32)then true else decide (ag l x=47)then true else decide (ag l x=63)then true else decide (ag l x=35)then true else decide (ag l x=64)then true else decide (ag l x=58)then true else decide (ag l x=92))=false->within x (ai l))/\((bif bif bif bif bif bif bif decide (ag l x<=32)then true else decide (ag l x=47)then true else decide (ag l x=63)then true else decide (ag l x=35)then true else decide (ag l x=64)then true else decide (ag l x=58)then true else decide (ag l x=92)then true else decide (ag l x=91))=false->within x (ai l))/\((bif bif bif bif bif bif bif bif decide (ag l x<=32)then true else decide (ag l x=47)then true else decide (ag l x=63)then true else decide (ag l x=35)then true else decide (ag l x=64)then true else decide (ag l x=58)then true else decide (ag l x=92)then true else decide (ag l x=91)then true else decide (ag l x=93))=true->True/\k (PV.bool true))/\((bif bif bif bif bif bif bif bif decide (ag l x<=32)then true else decide (ag l x=47)then true else decide (ag l x=63)then true else decide (ag l x=35)then true else decide (ag l x=64)then true else decide (ag l x=58)then true else decide (ag l x=92)then true else decide (ag l x=91)then true else decide (ag l x=93))=false->av (x+1)/\eK (VS.mk [] [(0,PV.str l),(2,PV.bool false),(3,PV.int .i64 (x+1)),uZ 4,uZ 5,uZ 6,uZ 7,uZ 8,uZ 9,uZ 10,uZ 11,(14,PV.bool (decide ((60:Int)<ai l))),uZ 19,uZ 73,uZ 90] [])/\((0:Int)<=x+1/\x+1<=↑(List.length l)/\Qu l (x+(1:Int)))/\(↑(List.length l)-(x+(1:Int))).toNat<(↑(List.length l)-x).toNat))/\(decide (x<ai l)=false->Ge.length+List.length l<=Go.Vc.maxLen/\List.length (Ge++l)+([47]:Bs).length<=Go.Vc.maxLen/\(List.length (Ge++l++([47]:Bs))).le 60000/\List.length l<=Go.Vc.maxLen/\(List.length l).le 1000/\(decide (l=([]:Bs))=true->(decide ((uH l).2=8)=true->True)/\k (PV.bool (bif decide ((uH l).2=8)then true else false)))/\(decide (l=([]:Bs))=false->I0.length+List.length l<=Go.Vc.maxLen/\List.length (I0++l)+([47]:Bs).length<=Go.Vc.maxLen/\(List.length (I0++l++([47]:Bs))).le 60000/\(List.length l).le 1000/\((bif bif bif decide ((uH l).2=(eh l true).2.2.2.2)then decide ((uX l).2=(eh l false).2.2.2.2)else false then Bool.rec false (decide ((uH l).1.hs=(eh l true).2.1)&&(decide ((uH l).1.hn=(eh l true).2.2.1)&&(decide ((uH l).1.hp=(eh l true).2.2.2.1)&&true))) (decide ((uH l).1.hk=(eh l true).1))else false then Bool.rec false (decide ((uX l).1.hs=(eh l false).2.1)&&(decide ((uX l).1.hn=(eh l false).2.2.1)&&(decide ((uX l).1.hp=(eh l false).2.2.2.1)&&true))) (decide ((uX l).1.hk=(eh l false).1))else false)=true->True)/\k (PV.bool (bif bif bif bif decide ((uH l).2=(eh l true).2.2.2.2)then decide ((uX l).2=(eh l false).2.2.2.2)else false then Bool.rec false (decide ((uH l).1.hs=(eh l true).2.1)&&(decide ((uH l).1.hn=(eh l true).2.2.1)&&(decide ((uH l).1.hp=(eh l true).2.2.2.1)&&true))) (decide ((uH l).1.hk=(eh l true).1))else false then Bool.rec false (decide ((uX l).1.hs=(eh l false).2.1)&&(decide ((uX l).1.hn=(eh l false).2.2.1)&&(decide ((uX l).1.hp=(eh l false).2.2.2.1)&&true))) (decide ((uX l).1.hk=(eh l false).1))else false then true else false)))))):=by kernel_rfl
attribute [local irreducible] Go.Vc.cD
theorem Ja(l:Bs):ae Tryz.prog az 10 [.str l] ⟨True,.bool true⟩:=bR (by kernel_rfl) Cm (H:=Cl l) (fuel:=1000) Tryz.func10 (by kernel_rfl) fun hpre=>(I9 l _).mpr (by
 have mx:∀n:Nat,n<=1000->n<=Go.Vc.maxLen:=fun n h=>Nat.le_trans h (by decide);refine ⟨fun _=>⟨trivial,rfl⟩,fun h=>?_⟩;have hr:l.length<=60:=by have:=of_decide_eq_false h;unfold ai at this;omega
 rw [show ai l=(l.length:Int)from rfl];refine ⟨rfl,⟨by omega,by omega,(fun b hb=>by simp at hb)⟩,fun x ⟨h0,h1,h2⟩=>⟨fun h=>?_,fun h=>?_⟩⟩
 ·have hlt:x<l.length:=of_decide_eq_true h
  have hw:within x (l.length:Int):=⟨h0,hlt⟩;obtain ⟨c,hc⟩:∃c,l.getD x.toNat 0=c:=⟨_,rfl⟩;have hb:ag l x=c.toNat:=by unfold ag;rw [hc]
  rw [hb];refine ⟨hw,fun _=>hw,fun _=>hw,fun _=>hw,fun _=>hw,fun _=>hw,fun _=>hw,fun _=>hw,fun _=>hw,fun _=>⟨trivial,rfl⟩,fun g=>⟨by unfold av;omega,rfl,⟨by omega,by omega,?_⟩,by omega⟩⟩;simp only [QH,Bool.or_eq_false_iff,decide_eq_false_iff_not]at g;intro b hb;rw [show(x+1).toNat=x.toNat+1 by omega,List.take_succ_eq_append_getElem (by omega)]at hb;rcases List.mem_append.1 hb with hb|hb
  ·exact h2 b hb
  ·have hb:b=c:=by
    rw [<-hc,List.getD_eq_getElem?_getD,List.getElem?_eq_getElem (by omega)];simpa using hb
   subst hb;obtain ⟨⟨⟨⟨⟨⟨⟨⟨g0,g1⟩,g2⟩,g3⟩,g4⟩,g5⟩,g6⟩,g7⟩,g8⟩:=g;have ne:∀d:UInt8,¬(b.toNat:Int)=(d.toNat:Int)->b≠d:=fun d h e=>h (by rw [e]);exact ⟨by omega,ne 47 g1,ne 92 g6,ne 63 g2,ne 35 g3,ne 64 g4,ne 58 g5,ne 91 g7,ne 93 g8⟩
 ·have hs:Mg l:=fun b hb=>h2 b (by
   have:¬x<l.length:=of_decide_eq_false h;rw [List.take_of_length_le (by omega)];exact hb)
  have e1:uH l=bV (Ge++(l++[47])):=by unfold uH;rw [lR,List.append_assoc]
  have e2:uX l=bV (I0++(l++[47])):=by unfold uX;rw [lR,List.append_assoc]
  rw [e1,e2,<-L4,<-IU];have la:∀B:Bs,B.length<=7->(B++l).length<=100/\(B++l++([47]:Bs)).length<=100:=fun B hB=>by
   simp only [List.length_append,List.length_singleton];omega
  have l1:=la Ge (by decide);have l2:=la I0 (by decide);refine ⟨mx _ (show 7+l.length<=1000 by omega),mx _ (by rw [List.length_singleton];omega),show _ <=60000 by omega,mx _ (by omega),show l.length<=1000 by omega,fun he=>⟨fun _=>trivial,?_⟩,fun he=>⟨mx _ (show 4+l.length<=1000 by omega),mx _ (by rw [List.length_singleton];omega),show _ <=60000 by omega,show l.length<=1000 by omega,fun _=>trivial,?_⟩⟩
  ·have:l=[]:=of_decide_eq_true he
   subst this;rw [show(bV (Ge++([]++[47]))).2=8 by decide+kernel];rfl
  ·have hne:l≠[]:=of_decide_eq_false he
   obtain ⟨u1,u2,u3,u4,u5⟩:=L8 hs hne;obtain ⟨v1,v2,v3,v4,v5⟩:=I1 hs hne;rw [u1,u2,u3,u4,u5,v1,v2,v3,v4,v5];generalize b5 l=X;generalize dD l=Y;simp)
end
theorem uY(a0:ByteArray)(w:World)(w0:a0.size<=maxLen)(htab:qX w):
 Calls Tryz.prog 10 #[.string a0] w fun e w'=>e=.returned (.bool true)/\Below w.heap.size w w':=by
 have hx:aw [.str a0.data.toList] (kt (fun _ _=>none)) w [.string a0]:=
  ⟨_,_,rfl,rfl,rfl⟩
 refine (ae.walk (fn:=Tryz.f10) Tryz.func10 (by kernel_rfl) rfl (Ja a0.data.toList) trivial (fun b o u h=>by cases h) (JD _) htab hx).mono fun e w' ⟨u,he,F',_,hb,_,_,_,_,hu⟩=>⟨by rw [he];exact congrArg _ hu,hb⟩
end Go.Proofs.YtmfapopclbnlpaaGreatDoor
