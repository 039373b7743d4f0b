import Derived.Test.YtjhmbkdkjgjoaaaX9
namespace Go.Proofs.Ytjhmbkdkjgjoaaa
open Go.RowKit
set_option maxHeartbeats 1000000
end Go.Proofs.Ytjhmbkdkjgjoaaa
