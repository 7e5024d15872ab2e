package route

import "bellpull/api"

// apart is the distance of two vertices that no path joins: no path is as long.
const apart = api.MaxRooms

// distances has the distance of each two vertices.
type distances [api.MaxRooms][api.MaxRooms]int

func distancesOf(n int, edges []api.Pair) distances {
	var between distances
	for a := range n {
		for b := range n {
			if a != b {
				between[a][b] = apart
			}
		}
	}
	for _, edge := range edges {
		between[edge.A][edge.B], between[edge.B][edge.A] = 1, 1
	}
	// Each vertex in turn is let be on the paths (Floyd and Warshall).
	for over := range n {
		for a := range n {
			for b := range n {
				between[a][b] = min(between[a][b], between[a][over]+between[over][b])
			}
		}
	}
	return between
}

func greatestDistance(n int, between distances) int {
	greatest := 0
	for a := range n {
		for b := range n {
			greatest = max(greatest, between[a][b])
		}
	}
	return greatest
}

// mostNeighbours returns the greatest number of neighbours of a vertex.
func mostNeighbours(n int, between distances) int {
	most := 0
	for a := range n {
		neighbours := 0
		for b := range n {
			if between[a][b] == 1 {
				neighbours++
			}
		}
		most = max(most, neighbours)
	}
	return most
}

func dividedUp(x, by int) int { return (x + by - 1) / by }
