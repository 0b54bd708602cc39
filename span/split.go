package span

import "matryoshka/api"

// Split divides the n sectors from sector at on by clusters of 1 << cluster sectors.
func Split(at, n, cluster int) ([]api.Piece, api.Errno) {
	if cluster < 0 || cluster > api.MaxCluster || !isOfDisk(at) || !isOfDisk(n) {
		return nil, api.ErrArg
	}
	var pieces []api.Piece
	for n > 0 {
		p := firstPiece(at, n, 1<<cluster)
		pieces = append(pieces, p)
		at += p.Count
		n -= p.Count
	}
	return pieces, api.OK
}

// isOfDisk tells whether a guest's disk may have a place, or a number of sectors, such as n.
func isOfDisk(n int) bool {
	return 0 <= n && n <= api.MaxDisk
}

// firstPiece is what of the n sectors from sector at on lies in the first cluster that contains some of them.
func firstPiece(at, n, size int) api.Piece {
	within := at % size
	return api.Piece{Cluster: at / size, At: within, Count: min(n, size-within)}
}
