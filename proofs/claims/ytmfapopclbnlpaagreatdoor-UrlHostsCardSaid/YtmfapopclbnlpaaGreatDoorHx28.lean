import Derived.Test.YtmfapopclbnlpaaGreatDoorProg
import Derived.ProofKit
import Derived.Test.YtmfapopclbnlpaaGreatDoorHx5
import Derived.Test.YtmfapopclbnlpaaGreatDoorHx25
import Derived.Test.YtmfapopclbnlpaaGreatDoorHx27
set_option linter.unusedVariables false
set_option linter.unusedSimpArgs false
set_option maxRecDepth 100000
set_option maxHeartbeats 4000000
namespace Go.Proofs.YtmfapopclbnlpaaGreatDoor
open Go Go.Proofs Go.RowKit Go.Vc
section
def qS:cM:=bS [(131,pY)]
def qT(sc us pw:Bs)(hk:Int)(hs:Bs)(hn:Int)(hp:List Int)(port:Int)(Rl pn:Bool)(pl:List Bs)(hq:Bool)(q:Bs)(hf:Bool)(fg:Bs)(bare sp:Bool)(I:Bs)(Rm Rv Ru:Bs)(Rp:Int)(Rq:Bs)(Rr:Int)(Rs:List Int)(Rj:Int)(Rk Ro:Bool)(Rn:List Bs)(Rt:Bool)(bq:Bs)(Rw:Bool)(Rx:Bs):aP:=fun i=>none
theorem tW:df Tryz.prog az qS:=ah y1 ax
theorem y3(sc us pw:Bs)(hk:Int)(hs:Bs)(hn:Int)(hp:List Int)(port:Int)(Rl pn:Bool)(pl:List Bs)(hq:Bool)(q:Bs)(hf:Bool)(fg:Bs)(bare sp:Bool)(I:Bs)(Rm Rv Ru:Bs)(Rp:Int)(Rq:Bs)(Rr:Int)(Rs:List Int)(Rj:Int)(Rk Ro:Bool)(Rn:List Bs)(Rt:Bool)(bq:Bs)(Rw:Bool)(Rx:Bs)(k:PV->List PV->Prop):b9 Tryz.prog qS az (qT sc us pw hk hs hn hp port Rl pn pl hq q hf fg bare sp I Rm Rv Ru Rp Rq Rr Rs Rj Rk Ro Rn Rt bq Rw Rx) 1000 Tryz.f85 [.ptr 0 0] [aE 1 (.ptr 1 0) sc us pw hk hs hn hp port Rl pn pl hq q hf fg bare sp I,bW 0 Rm Rv Ru Rp Rq Rr Rs Rj Rk Ro Rn Rt bq Rw Rx] k=(
 Rn.length.le 1000000/\
 k (PV.tup []) [ct (PV.ptr 1 0) 1 sc us pw hk hs hn hp port Rl Ro Rn hq q hf fg bare sp I,bW 0 Rm Rv Ru Rp Rq Rr Rs Rj Rk Ro Rn Rt bq Rw Rx]):=by kernel_rfl
attribute [local irreducible] Go.Vc.cD Go.Vc.b9
theorem tX(sc us pw:Bs)(hk:Int)(hs:Bs)(hn:Int)(hp:List Int)(port:Int)(Rl pn:Bool)(pl:List Bs)(hq:Bool)(q:Bs)(hf:Bool)(fg:Bs)(bare sp:Bool)(I:Bs)(Rm Rv Ru:Bs)(Rp:Int)(Rq:Bs)(Rr:Int)(Rs:List Int)(Rj:Int)(Rk Ro:Bool)(Rn:List Bs)(Rt:Bool)(bq:Bs)(Rw:Bool)(Rx:Bs):bE Tryz.prog az 85 [.ptr 0 0] [aE 1 (.ptr 1 0) sc us pw hk hs hn hp port Rl pn pl hq q hf fg bare sp I,bW 0 Rm Rv Ru Rp Rq Rr Rs Rj Rk Ro Rn Rt bq Rw Rx] (Rn.length<=1000000) (.tup []) [aE 1 (.ptr 1 0) sc us pw hk hs hn hp port Rl Ro Rn hq q hf fg bare sp I,bW 0 Rm Rv Ru Rp Rq Rr Rs Rj Rk Ro Rn Rt bq Rw Rx]:=bT (by kernel_rfl) tW (H:=qT sc us pw hk hs hn hp port Rl pn pl hq q hf fg bare sp I Rm Rv Ru Rp Rq Rr Rs Rj Rk Ro Rn Rt bq Rw Rx) (fuel:=1000) Tryz.func85 (by kernel_rfl) (Nat.le_of_ble_eq_true rfl) fun hpre=>(y3 sc us pw hk hs hn hp port Rl pn pl hq q hf fg bare sp I Rm Rv Ru Rp Rq Rr Rs Rj Rk Ro Rn Rt bq Rw Rx _).mpr (by
 exact ⟨hpre,rfl,rfl⟩)
theorem y4(sc us pw:Bs)(hk:Int)(hs:Bs)(hn:Int)(hp:List Int)(port:Int)(Rl pn:Bool)(pl:List Bs)(hq:Bool)(q:Bs)(hf:Bool)(fg:Bs)(bare sp:Bool)(I:Bs)(Rm Rv Ru:Bs)(Rp:Int)(Rq:Bs)(Rr:Int)(Rs:List Int)(Rj:Int)(Rk Ro:Bool)(Rn:List Bs)(Rt:Bool)(bq:Bs)(Rw:Bool)(Rx:Bs):ae Tryz.prog az 85 [.ptr 0 0,aE 1 (.ptr 1 0) sc us pw hk hs hn hp port Rl pn pl hq q hf fg bare sp I,bW 0 Rm Rv Ru Rp Rq Rr Rs Rj Rk Ro Rn Rt bq Rw Rx] ⟨Rn.length<=1000000,.tup [.tup [],aE 1 (.ptr 1 0) sc us pw hk hs hn hp port Rl Ro Rn hq q hf fg bare sp I,bW 0 Rm Rv Ru Rp Rq Rr Rs Rj Rk Ro Rn Rt bq Rw Rx]⟩:=ae.aZ (fun h=>by have e:List.isEmpty (PV.aC PV.bU [.ptr 0 0,aE 1 (.ptr 1 0) sc us pw hk hs hn hp port Rl pn pl hq q hf fg bare sp I,bW 0 Rm Rv Ru Rp Rq Rr Rs Rj Rk Ro Rn Rt bq Rw Rx])=false:=(by kernel_rfl);exact Bool.noConfusion (e.symm.trans (congrArg List.isEmpty h))) (tX sc us pw hk hs hn hp port Rl pn pl hq q hf fg bare sp I Rm Rv Ru Rp Rq Rr Rs Rj Rk Ro Rn Rt bq Rw Rx)
def jx:List PV->Option aD:=fun xs=>match xs with
 |[.ptr 0 0,aE 1 (.ptr 1 0) sc us pw hk hs hn hp port Rl pn pl hq q hf fg bare sp I,bW 0 Rm Rv Ru Rp Rq Rr Rs Rj Rk Ro Rn Rt bq Rw Rx]=>some ⟨Rn.length<=1000000,.tup [.tup [],aE 1 (.ptr 1 0) sc us pw hk hs hn hp port Rl Ro Rn hq q hf fg bare sp I,bW 0 Rm Rv Ru Rp Rq Rr Rs Rj Rk Ro Rn Rt bq Rw Rx]⟩
 |_=>none
theorem pZ:∀xs c,jx xs=some c->ae Tryz.prog az 85 xs c:=fun xs c h=>by
 unfold jx at h;split at h
 ·injection h with h;subst h;exact y4 _ _ _ _ _ _ _ _ _ _ _ _ _ _ _ _ _ _ _ _ _ _ _ _ _ _ _ _ _ _ _ _ _
 ·cases h
end
section
def F7:cM:=bS [(82,lv),(84,ie),(77,jl),(85,jx),(86,mX),(122,ly),(90,pR)]
def F8(sc us pw:Bs)(hk:Int)(hs:Bs)(hn:Int)(hp:List Int)(port:Int)(Rl pn:Bool)(pl:List Bs)(hq:Bool)(q:Bs)(hf:Bool)(fg:Bs)(bare sp:Bool)(I:Bs)(Rm Rv Ru:Bs)(Rp:Int)(Rq:Bs)(Rr:Int)(Rs:List Int)(Rj:Int)(Rk Ro:Bool)(Rn:List Bs)(Rt:Bool)(bq:Bs)(Rw:Bool)(Rx:Bs):aP:=fun i=>none
theorem Ew:df Tryz.prog az F7:=ah tQ (ah mW (ah lx (ah pZ (ah uR (ah tS (ah yQ ax))))))
theorem LZ(sc us pw:Bs)(hk:Int)(hs:Bs)(hn:Int)(hp:List Int)(port:Int)(Rl pn:Bool)(pl:List Bs)(hq:Bool)(q:Bs)(hf:Bool)(fg:Bs)(bare sp:Bool)(I:Bs)(Rm Rv Ru:Bs)(Rp:Int)(Rq:Bs)(Rr:Int)(Rs:List Int)(Rj:Int)(Rk Ro:Bool)(Rn:List Bs)(Rt:Bool)(bq:Bs)(Rw:Bool)(Rx:Bs)(k:PV->List PV->Prop):b9 Tryz.prog F7 az (F8 sc us pw hk hs hn hp port Rl pn pl hq q hf fg bare sp I Rm Rv Ru Rp Rq Rr Rs Rj Rk Ro Rn Rt bq Rw Rx) 1000 Tryz.f76 [.ptr 0 0] [aE 1 (.ptr 1 0) sc us pw hk hs hn hp port Rl pn pl hq q hf fg bare sp I,bW 0 Rm Rv Ru Rp Rq Rr Rs Rj Rk Ro Rn Rt bq Rw Rx] k=(
 (((0:Int)<=0/\
 (0:Int)<1000)/\
 aB sp I 0=false)/\
 (false=true->
 (((0:Int)<=1/\
 (1:Int)<1000)/\
 aB sp I 1=false)/\
 (false=true->
 upto 2 (ai I) (ai I)/\
 False/\
 False)/\
 (false=false->
 aB sp I 0=false/\
 (false=true->
 False)/\
 (false=false->
 Rm=sc/\
 ((!true)=true->
 (List.length I<=300000/\
 pl.length<=100000)/\
 k (PV.int .i64 0) [ct (PV.ptr 1 0) 1 sc us pw 1 hs hn hp port Rl ((bQ sp sc (ab I ↑(aI I)) (pn,pl)).1) ((bQ sp sc (ab I ↑(aI I)) (pn,pl)).2) hq q hf fg bare sp (aa I ↑(aI I)),bW 0 Rm Rv Ru Rp Rq Rr Rs Rj Rk Ro Rn Rt bq Rw Rx])/\
 ((!true)=false->
 Rn.length.le 1000000/\
 ck I=false/\
 (false=true->
 k (PV.int .i64 0) [ct (PV.ptr 1 0) 1 sc us pw Rp Rq Rr Rs port Rl Ro Rn hq q hf fg bare sp I,bW 0 Rm Rv Ru Rp Rq Rr Rs Rj Rk Ro Rn Rt bq Rw Rx])/\
 (false=false->
 (List.length I<=300000/\
 Rn.length<=1000000/\
 bN I=false)/\
 (List.length I<=300000/\
 (RS.mk sc us pw Rp Rq Rr Rs port Rl Ro Rn hq q hf fg bare sp I).short.pl.length<=100000)/\
 k (PV.int .i64 0) [ct (PV.ptr 1 0) 1 sc us pw Rp Rq Rr Rs port Rl ((bQ sp sc (ab I ↑(aI I)) ((RS.mk sc us pw Rp Rq Rr Rs port Rl Ro Rn hq q hf fg bare sp I).short.pn,(RS.mk sc us pw Rp Rq Rr Rs port Rl Ro Rn hq q hf fg bare sp I).short.pl)).1) ((bQ sp sc (ab I ↑(aI I)) ((RS.mk sc us pw Rp Rq Rr Rs port Rl Ro Rn hq q hf fg bare sp I).short.pn,(RS.mk sc us pw Rp Rq Rr Rs port Rl Ro Rn hq q hf fg bare sp I).short.pl)).2) hq q hf fg bare sp (aa I ↑(aI I)),bW 0 Rm Rv Ru Rp Rq Rr Rs Rj Rk Ro Rn Rt bq Rw Rx])))))/\
 (false=!true->
 (false=true->
 upto 2 (ai I) (ai I)/\
 False/\
 False)/\
 (false=false->
 aB sp I 0=false/\
 (false=true->
 False)/\
 (false=false->
 Rm=sc/\
 ((!true)=true->
 (List.length I<=300000/\
 pl.length<=100000)/\
 k (PV.int .i64 0) [ct (PV.ptr 1 0) 1 sc us pw 1 hs hn hp port Rl ((bQ sp sc (ab I ↑(aI I)) (pn,pl)).1) ((bQ sp sc (ab I ↑(aI I)) (pn,pl)).2) hq q hf fg bare sp (aa I ↑(aI I)),bW 0 Rm Rv Ru Rp Rq Rr Rs Rj Rk Ro Rn Rt bq Rw Rx])/\
 ((!true)=false->
 Rn.length.le 1000000/\
 ck I=false/\
 (false=true->
 k (PV.int .i64 0) [ct (PV.ptr 1 0) 1 sc us pw Rp Rq Rr Rs port Rl Ro Rn hq q hf fg bare sp I,bW 0 Rm Rv Ru Rp Rq Rr Rs Rj Rk Ro Rn Rt bq Rw Rx])/\
 (false=false->
 (List.length I<=300000/\
 Rn.length<=1000000/\
 bN I=false)/\
 (List.length I<=300000/\
 (RS.mk sc us pw Rp Rq Rr Rs port Rl Ro Rn hq q hf fg bare sp I).short.pl.length<=100000)/\
 k (PV.int .i64 0) [ct (PV.ptr 1 0) 1 sc us pw Rp Rq Rr Rs port Rl ((bQ sp sc (ab I ↑(aI I)) ((RS.mk sc us pw Rp Rq Rr Rs port Rl Ro Rn hq q hf fg bare sp I).short.pn,(RS.mk sc us pw Rp Rq Rr Rs port Rl Ro Rn hq q hf fg bare sp I).short.pl)).1) ((bQ sp sc (ab I ↑(aI I)) ((RS.mk sc us pw Rp Rq Rr Rs port Rl Ro Rn hq q hf fg bare sp I).short.pn,(RS.mk sc us pw Rp Rq Rr Rs port Rl Ro Rn hq q hf fg bare sp I).short.pl)).2) hq q hf fg bare sp (aa I ↑(aI I)),bW 0 Rm Rv Ru Rp Rq Rr Rs Rj Rk Ro Rn Rt bq Rw Rx])))))):=by kernel_rfl
attribute [local irreducible] Go.Vc.cD Go.Vc.b9
theorem Ey(sc us pw:Bs)(hk:Int)(hs:Bs)(hn:Int)(hp:List Int)(port:Int)(Rl pn:Bool)(pl:List Bs)(hq:Bool)(q:Bs)(hf:Bool)(fg:Bs)(bare sp:Bool)(I:Bs)(Rm Rv Ru:Bs)(Rp:Int)(Rq:Bs)(Rr:Int)(Rs:List Int)(Rj:Int)(Rk Ro:Bool)(Rn:List Bs)(Rt:Bool)(bq:Bs)(Rw:Bool)(Rx:Bs):bE Tryz.prog az 76 [.ptr 0 0] [aE 1 (.ptr 1 0) sc us pw hk hs hn hp port Rl pn pl hq q hf fg bare sp I,bW 0 Rm Rv Ru Rp Rq Rr Rs Rj Rk Ro Rn Rt bq Rw Rx] (I.length<=300000/\Rn.length<=100000/\aB sp I 0=false/\ck I=false/\bN I=false/\Rm=sc) (.int .i64 0) [aE 1 (.ptr 1 0) sc us pw (((RS.mk sc us pw hk hs hn hp port Rl pn pl hq q hf fg bare sp I).cw (RS.mk Rm Rv Ru Rp Rq Rr Rs Rj Rk Ro Rn Rt bq Rw Rx false false [])).hk) (((RS.mk sc us pw hk hs hn hp port Rl pn pl hq q hf fg bare sp I).cw (RS.mk Rm Rv Ru Rp Rq Rr Rs Rj Rk Ro Rn Rt bq Rw Rx false false [])).hs) (((RS.mk sc us pw hk hs hn hp port Rl pn pl hq q hf fg bare sp I).cw (RS.mk Rm Rv Ru Rp Rq Rr Rs Rj Rk Ro Rn Rt bq Rw Rx false false [])).hn) (((RS.mk sc us pw hk hs hn hp port Rl pn pl hq q hf fg bare sp I).cw (RS.mk Rm Rv Ru Rp Rq Rr Rs Rj Rk Ro Rn Rt bq Rw Rx false false [])).hp) port Rl (((RS.mk sc us pw hk hs hn hp port Rl pn pl hq q hf fg bare sp I).cw (RS.mk Rm Rv Ru Rp Rq Rr Rs Rj Rk Ro Rn Rt bq Rw Rx false false [])).pn) (((RS.mk sc us pw hk hs hn hp port Rl pn pl hq q hf fg bare sp I).cw (RS.mk Rm Rv Ru Rp Rq Rr Rs Rj Rk Ro Rn Rt bq Rw Rx false false [])).pl) hq q hf fg bare sp (((RS.mk sc us pw hk hs hn hp port Rl pn pl hq q hf fg bare sp I).cw (RS.mk Rm Rv Ru Rp Rq Rr Rs Rj Rk Ro Rn Rt bq Rw Rx false false [])).I),bW 0 Rm Rv Ru Rp Rq Rr Rs Rj Rk Ro Rn Rt bq Rw Rx]:=bT (by kernel_rfl) Ew (H:=F8 sc us pw hk hs hn hp port Rl pn pl hq q hf fg bare sp I Rm Rv Ru Rp Rq Rr Rs Rj Rk Ro Rn Rt bq Rw Rx) (fuel:=1000) Tryz.func76 (by kernel_rfl) (Nat.le_of_ble_eq_true rfl) fun hpre=>(LZ sc us pw hk hs hn hp port Rl pn pl hq q hf fg bare sp I Rm Rv Ru Rp Rq Rr Rs Rj Rk Ro Rn Rt bq Rw Rx _).mpr (by
 obtain ⟨h1,h2,h3,h4,h5,h6⟩:=hpre;have hz:(0:Int)<=0/\(0:Int)<1000:=⟨by decide,by decide⟩;have hp:(cu sc (Ro,Rn)).2.length<=100000:=by
  unfold cu;split
  ·exact h2
  ·show(Rn.take _).length<=_
   rw [List.length_take];omega
 exact ⟨⟨hz,h3⟩,(fun h=>nomatch h),fun _=>⟨(fun h=>nomatch h),fun _=>⟨h3,(fun h=>nomatch h),fun _=>⟨h6,(fun h=>nomatch h),fun _=>⟨show Rn.length<=1000000 by omega,h4,(fun h=>nomatch h),fun _=>⟨⟨h1,by omega,h5⟩,⟨h1,hp⟩,rfl,rfl⟩⟩⟩⟩⟩⟩)
theorem L0(sc us pw:Bs)(hk:Int)(hs:Bs)(hn:Int)(hp:List Int)(port:Int)(Rl pn:Bool)(pl:List Bs)(hq:Bool)(q:Bs)(hf:Bool)(fg:Bs)(bare sp:Bool)(I:Bs)(Rm Rv Ru:Bs)(Rp:Int)(Rq:Bs)(Rr:Int)(Rs:List Int)(Rj:Int)(Rk Ro:Bool)(Rn:List Bs)(Rt:Bool)(bq:Bs)(Rw:Bool)(Rx:Bs):ae Tryz.prog az 76 [.ptr 0 0,aE 1 (.ptr 1 0) sc us pw hk hs hn hp port Rl pn pl hq q hf fg bare sp I,bW 0 Rm Rv Ru Rp Rq Rr Rs Rj Rk Ro Rn Rt bq Rw Rx] ⟨I.length<=300000/\Rn.length<=100000/\aB sp I 0=false/\ck I=false/\bN I=false/\Rm=sc,.tup [.int .i64 0,aE 1 (.ptr 1 0) sc us pw (((RS.mk sc us pw hk hs hn hp port Rl pn pl hq q hf fg bare sp I).cw (RS.mk Rm Rv Ru Rp Rq Rr Rs Rj Rk Ro Rn Rt bq Rw Rx false false [])).hk) (((RS.mk sc us pw hk hs hn hp port Rl pn pl hq q hf fg bare sp I).cw (RS.mk Rm Rv Ru Rp Rq Rr Rs Rj Rk Ro Rn Rt bq Rw Rx false false [])).hs) (((RS.mk sc us pw hk hs hn hp port Rl pn pl hq q hf fg bare sp I).cw (RS.mk Rm Rv Ru Rp Rq Rr Rs Rj Rk Ro Rn Rt bq Rw Rx false false [])).hn) (((RS.mk sc us pw hk hs hn hp port Rl pn pl hq q hf fg bare sp I).cw (RS.mk Rm Rv Ru Rp Rq Rr Rs Rj Rk Ro Rn Rt bq Rw Rx false false [])).hp) port Rl (((RS.mk sc us pw hk hs hn hp port Rl pn pl hq q hf fg bare sp I).cw (RS.mk Rm Rv Ru Rp Rq Rr Rs Rj Rk Ro Rn Rt bq Rw Rx false false [])).pn) (((RS.mk sc us pw hk hs hn hp port Rl pn pl hq q hf fg bare sp I).cw (RS.mk Rm Rv Ru Rp Rq Rr Rs Rj Rk Ro Rn Rt bq Rw Rx false false [])).pl) hq q hf fg bare sp (((RS.mk sc us pw hk hs hn hp port Rl pn pl hq q hf fg bare sp I).cw (RS.mk Rm Rv Ru Rp Rq Rr Rs Rj Rk Ro Rn Rt bq Rw Rx false false [])).I),bW 0 Rm Rv Ru Rp Rq Rr Rs Rj Rk Ro Rn Rt bq Rw Rx]⟩:=ae.aZ (fun h=>by have e:List.isEmpty (PV.aC PV.bU [.ptr 0 0,aE 1 (.ptr 1 0) sc us pw hk hs hn hp port Rl pn pl hq q hf fg bare sp I,bW 0 Rm Rv Ru Rp Rq Rr Rs Rj Rk Ro Rn Rt bq Rw Rx])=false:=(by kernel_rfl);exact Bool.noConfusion (e.symm.trans (congrArg List.isEmpty h))) (Ey sc us pw hk hs hn hp port Rl pn pl hq q hf fg bare sp I Rm Rv Ru Rp Rq Rr Rs Rj Rk Ro Rn Rt bq Rw Rx)
def p6:List PV->Option aD:=fun xs=>match xs with
 |[.ptr 0 0,aE 1 (.ptr 1 0) sc us pw hk hs hn hp port Rl pn pl hq q hf fg bare sp I,bW 0 Rm Rv Ru Rp Rq Rr Rs Rj Rk Ro Rn Rt bq Rw Rx]=>some ⟨I.length<=300000/\Rn.length<=100000/\aB sp I 0=false/\ck I=false/\bN I=false/\Rm=sc,.tup [.int .i64 0,aE 1 (.ptr 1 0) sc us pw (((RS.mk sc us pw hk hs hn hp port Rl pn pl hq q hf fg bare sp I).cw (RS.mk Rm Rv Ru Rp Rq Rr Rs Rj Rk Ro Rn Rt bq Rw Rx false false [])).hk) (((RS.mk sc us pw hk hs hn hp port Rl pn pl hq q hf fg bare sp I).cw (RS.mk Rm Rv Ru Rp Rq Rr Rs Rj Rk Ro Rn Rt bq Rw Rx false false [])).hs) (((RS.mk sc us pw hk hs hn hp port Rl pn pl hq q hf fg bare sp I).cw (RS.mk Rm Rv Ru Rp Rq Rr Rs Rj Rk Ro Rn Rt bq Rw Rx false false [])).hn) (((RS.mk sc us pw hk hs hn hp port Rl pn pl hq q hf fg bare sp I).cw (RS.mk Rm Rv Ru Rp Rq Rr Rs Rj Rk Ro Rn Rt bq Rw Rx false false [])).hp) port Rl (((RS.mk sc us pw hk hs hn hp port Rl pn pl hq q hf fg bare sp I).cw (RS.mk Rm Rv Ru Rp Rq Rr Rs Rj Rk Ro Rn Rt bq Rw Rx false false [])).pn) (((RS.mk sc us pw hk hs hn hp port Rl pn pl hq q hf fg bare sp I).cw (RS.mk Rm Rv Ru Rp Rq Rr Rs Rj Rk Ro Rn Rt bq Rw Rx false false [])).pl) hq q hf fg bare sp (((RS.mk sc us pw hk hs hn hp port Rl pn pl hq q hf fg bare sp I).cw (RS.mk Rm Rv Ru Rp Rq Rr Rs Rj Rk Ro Rn Rt bq Rw Rx false false [])).I),bW 0 Rm Rv Ru Rp Rq Rr Rs Rj Rk Ro Rn Rt bq Rw Rx]⟩
 |_=>none
theorem y5:∀xs c,p6 xs=some c->ae Tryz.prog az 76 xs c:=fun xs c h=>by
 unfold p6 at h;split at h
 ·injection h with h;subst h;exact L0 _ _ _ _ _ _ _ _ _ _ _ _ _ _ _ _ _ _ _ _ _ _ _ _ _ _ _ _ _ _ _ _ _
 ·cases h
end
end Go.Proofs.YtmfapopclbnlpaaGreatDoor
